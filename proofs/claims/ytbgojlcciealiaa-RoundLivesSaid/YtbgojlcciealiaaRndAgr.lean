/-
  One's way to agreement: the first round in which something is agreed. No condition.
-/
import Derived.Test.YtbgojlcciealiaaRndSure
namespace Go.Proofs.Ytbgojlcciealiaa
open Go Go.RowKit Go.Maps

theorem results_tct {P : Program} {fn : Func} {p q r : Tmp} {ty : TypeId} (h : fn.results = #[.tmp q, .cell p ty, .tmp r]) (tmps : Array Value) (w : World) (a : Addr) (x : Value)
    (hp : tmps.getD p undef = .pointer (some a)) (hx : (Go.loadVar ty a).run P w = .ok x w) :
    (results fn tmps).run P w = .ok (.tuple #[tmps.getD q undef, x, tmps.getD r undef]) w := by
  have hp' : tmps[p]?.getD undef = .pointer (some a) := by simpa using hp
  simp [results, h, hp', asAddr, hx]
/-- The first round in which something is agreed, and what. -/
def agreedS (s : RdS) : Option (Nat × List UInt8) := (List.range 12).findSome? fun (k : Nat) => (sureS s (k : Int) 1).map fun id => (k, id)
theorem agreed_none {s : RdS} (h : ∀ i : Nat, i < 12 → sureS s (i : Int) 1 = none) : agreedS s = none := by
  unfold agreedS
  rw [List.findSome?_eq_none_iff]
  intro i hi
  rw [h i (List.mem_range.1 hi)]
  rfl
theorem agreed_some {s : RdS} {j : Nat} {x : List UInt8} (hj : j < 12) (h : ∀ i : Nat, i < j → sureS s (i : Int) 1 = none) (hx : sureS s (j : Int) 1 = some x) : agreedS s = some (j, x) := by
  unfold agreedS
  have e : List.range 12 = List.range j ++ j :: (List.range (12 - j - 1)).map (fun i => i + j + 1) := by
    apply List.ext_getElem?
    intro i
    rcases Nat.lt_trichotomy i j with hi | hi | hi
    · rw [List.getElem?_append_left (by simpa using hi), List.getElem?_range (by omega), List.getElem?_range hi]
    · subst hi
      rw [List.getElem?_append_right (by simp), List.length_range, Nat.sub_self, List.getElem?_range hj]
      rfl
    · rw [List.getElem?_append_right (by simp; omega), List.length_range]
      obtain ⟨d, rfl⟩ : ∃ d, i = j + d + 1 := ⟨i - j - 1, by omega⟩
      rw [show j + d + 1 - j = d + 1 by omega, List.getElem?_cons_succ, List.getElem?_map]
      by_cases hd : d < 12 - j - 1
      · rw [List.getElem?_range (by omega), List.getElem?_range hd, Option.map_some]
        congr 1
        omega
      · rw [List.getElem?_eq_none (by simp; omega), List.getElem?_eq_none (by simp; omega)]
        rfl
  rw [e, List.findSome?_append]
  have e2 : (List.range j).findSome? (fun (k : Nat) => (sureS s (k : Int) 1).map fun id => (k, id)) = none := by
    rw [List.findSome?_eq_none_iff]
    intro i hi
    rw [h i (List.mem_range.1 hi)]
    rfl
  rw [e2, List.findSome?_cons, hx]
  rfl
theorem sureS_ok {W : World} {B C M n : Nat} {kv : Value} {s : RdS} (h : RoundAt W B C M n kv s) {r k : Int} {x : List UInt8} (hx : sureS s r k = some x) : IdOk x ∧ x ≠ zeroId := by
  unfold sureS at hx
  split at hx
  · cases hx
  · rename_i id hid
    split at hx
    · cases hx
    · injection hx with hx
      subst hx
      exact sureO_okR h.cnt hid
set_option maxRecDepth 100000 in
set_option maxHeartbeats 8000000 in
theorem agreed_any {W : World} {B C M n : Nat} {kv : Value} {s : RdS} (h : RoundAt W B C M n kv s) : Calls Try.prog 76 #[.pointer (some ⟨B, 0, none⟩)] W fun e w' => e = .returned (.tuple #[.int .i64 (((agreedS s).map (fun p => (p.1 : Int))).getD 0), idv (((agreedS s).map (·.2)).getD zeroId), .bool (agreedS s).isSome]) ∧ Below W.heap.size W w' := by
  have HR := Lib.hid h
  clear h
  go_enter Try.func76, Try.ntmps76
  go_upto_region 1 with fail
  generalize hW : World.alloc _ _ = W1
  have hb1 : Below W.heap.size W W1 := by rw [← hW]; exact (Below.refl _ _).alloc (Nat.le_refl _) _
  obtain ⟨old, hk1, ho1⟩ : ∃ old, Blk W1 W.heap.size 24 old ∧ old.size = 32 := by rw [← hW]; exact ⟨_, Blk.newAt _ _ rfl rfl, rfl⟩
  have HB1 := Lib.hid hb1
  have HK1 := Lib.hid hk1
  have HO1 := Lib.hid ho1
  have HSU : Hid (∀ (j : Nat), j < 12 → ∀ W', Below W1.heap.size W1 W' → Calls Try.prog 78 #[.pointer (some ⟨B, 0, none⟩), .int .i64 (j : Int), .int .i64 1] W' fun e w' => e = .returned (.tuple #[idv ((sureS s (j : Int) 1).getD zeroId), .bool (sureS s (j : Int) 1).isSome]) ∧ Below W'.heap.size W' w') := Lib.hid fun j hj W' hb => sureR_any (HR.out.below (HB1.out.trans (hb.mono HB1.out.size))) _ _ (wfi_small (by omega) (by omega)) (wfi_small (by omega) (by omega))
  clear hb1 hk1 ho1 hW
  go_upto_region 2 with fail
  go_loopw [5, 6, 7, 8] (fun _ _ _ i wr => ∃ j : Nat, j ≤ 12 ∧ i = .int .i64 (j : Int) ∧ (∀ i : Nat, i < j → sureS s (i : Int) 1 = none) ∧ Below W1.heap.size W1 wr) (fun _ _ _ i _ => 12 - (intOf i).toNat)
  case atStart => exact ⟨0, Nat.zero_le _, rfl, fun i hi => absurd hi (Nat.not_lt_zero _), Below.refl _ _⟩
  case round =>
    obtain ⟨j, hj, rfl, hno, hb⟩ := hrel
    have HNO := Lib.hid hno
    have HBQ := Lib.hid hb
    clear hno hb
    by_cases hlt : j < 12
    · have hkn : (j : Int) < 12 := by omega
      have HJ := Lib.hid hlt
      have HSJ := Lib.hid (HSU.out j hlt)
      cases hx : sureS s (j : Int) 1 with
      | none =>
        have HT : Hid (∀ i : Nat, i < j + 1 → sureS s (i : Int) 1 = none) := Lib.hid fun i hi => by
          rcases Nat.lt_succ_iff_lt_or_eq.1 hi with hi | hi
          · exact HNO.out i hi
          · rw [hi]; exact hx
        rw [hx] at HSJ
        clear hx
        go_wp2_with (first
          | (go_at_call 78; refine (HSJ.out _ HBQ.out).mono ?_; rintro e W2 ⟨rfl, hb2⟩; have HB2 := Lib.hid hb2; clear hb2)
          | (guard_target = wpList _ _ _ (Oper.mk _ (.store 24 _ _) _ _ _ _ :: _) _ _; refine wpList_store_idv rfl _ _ rfl W2.heap.size (zeroId) rfl rfl zeroId_ok 24 _ (Blk.newAt _ _ rfl rfl) rfl ?_; intro W3 hS3 hz3 hb3 hk3; have HK8 := Lib.hid hS3; have HB3 := Lib.hid (((Below.refl _ W2).alloc (Nat.le_refl _) _).trans hb3); clear hS3 hz3 hb3 hk3))
        go_roundw
        case rel => exact ⟨j + 1, by omega, by go_num, HT.out, HBQ.out.trans ((HB2.out.trans (HB3.out.mono HB2.out.size)).mono HBQ.out.size)⟩
        case measure => simp [intOf]; omega
      | some x =>
        have HOK := Lib.hid (sureS_ok HR.out hx).1
        have HFIN := Lib.hid (agreed_some hlt HNO.out hx)
        rw [hx] at HSJ
        clear hx
        go_upto_region 6 with (first
          | (go_at_call 78; refine (HSJ.out _ HBQ.out).mono ?_; rintro e W2 ⟨rfl, hb2⟩; have HB2 := Lib.hid hb2; clear hb2)
          | (guard_target = wpList _ _ _ (Oper.mk _ (.store 24 _ _) _ _ _ _ :: _) _ _; refine wpList_store_idv rfl _ _ rfl W2.heap.size (x) rfl rfl HOK.out 24 _ (Blk.newAt _ _ rfl rfl) rfl ?_; intro W3 hS3 hz3 hb3 hk3; have HK8 := Lib.hid hS3; have HB3 := Lib.hid (((Below.refl _ W2).alloc (Nat.le_refl _) _).trans hb3); clear hS3 hz3 hb3 hk3))
        have HBQ3 : Hid (Below W1.heap.size W1 W3) := Lib.hid (HBQ.out.trans ((HB2.out.trans (HB3.out.mono HB2.out.size)).mono HBQ.out.size))
        have HK6 : Hid (Blk W3 W.heap.size 24 old) := Lib.hid (HK1.out.below HBQ3.out HK1.out.lt)
        have HL6 : Hid (W.heap.size < W2.heap.size) := Lib.hid (Nat.lt_of_lt_of_le HK1.out.lt (Nat.le_trans HBQ.out.size HB2.out.size))
        refine wp_region_held_drew (S := fun W' => (Instr.loadAt 24 (.pointer (some ⟨W2.heap.size, 0, none⟩))).run Try.prog W' = .ok (idv x) W') (by kernel_rfl) ?_ (fun hHeld => ?_)
        · exact (run_loadVar_idv HOK.out HK8.out.drew)
        refine tkH (v := ?_) 0 ⟨some 18, _, _, _, _, _⟩ rfl (Or.inl ⟨by rfl, ?_⟩) ?_
        rotate_left
        · intro w hSw; (try dsimp only at hSw); go_simp; try (with_reducible rfl)
        try simp only [Act.put, nz1, nz2, nz3]
        refine tkH (v := (idv x)) 1 ⟨some 19, _, _, _, _, _⟩ rfl (yields_run (by rfl) 24 _ rfl (.pointer (some ⟨W2.heap.size, 0, none⟩)) _ rfl (fun W' hS => hS)) ?_
        try simp only [Act.put, nz1, nz2, nz3]
        refine tkH (v := ?_) 2 ⟨some 2, _, _, _, _, _⟩ rfl (Or.inl ⟨by rfl, ?_⟩) ?_
        rotate_left
        · intro w hSw; (try dsimp only at hSw); go_simp; try (with_reducible rfl)
        try simp only [Act.put, nz1, nz2, nz3]
        refine wpAnyH_ready (rs := [3]) (by kernel_rfl) (by simp) ?_
        refine (AllReadyH.cons (o := ⟨none, _, _, _, _, _⟩) rfl (fun K hK => ?_) AllReadyH.nil)
        (try rw [if_pos (by rfl)])
        refine oper_store_idR _ _ rfl W.heap.size x rfl rfl HOK.out 24 _ HK6.out.drew HO1.out ?_
        intro w9 hS9 hg9 hz9
        have hb9 : Below W.heap.size W w9 := HB1.out.trans ((HBQ3.out.drew.mono HB1.out.size).trans (below_of_grown hg9 (Nat.le_refl _) (Nat.le_trans HB1.out.size HBQ3.out.drew.size)))
        have HS9 := Lib.hid hS9
        have HB9 := Lib.hid hb9
        have HK89 : Hid (Blk w9 W2.heap.size 24 (idC x)) := Lib.hid (HK8.out.drew.grown hg9 fun e => by have := HL6.out; injection e with e; omega)
        clear hS9 hg9 hz9 hb9
        try dsimp only
        refine hK.out _ _ ((run_loadVar_idv HOK.out HK89.out)) (fun hHeld => ?_)
        clear hK K
        try simp only [Act.put]
        refine tkH (v := ?_) 4 ⟨some 4, _, _, _, _, _⟩ rfl (Or.inl ⟨by rfl, ?_⟩) ?_
        rotate_left
        · intro w hSw; (try dsimp only at hSw); go_simp; try (with_reducible rfl)
        try simp only [Act.put, nz1, nz2, nz3]
        refine wpAnyH_done (by kernel_rfl) ?_ _
        go_wp2_with fail
        refine bodyPost_ret (results_tct (p := 3) (q := 2) (r := 4) rfl _ _ _ _ rfl (run_loadVar_idv HOK.out HS9.out)) rfl ?_
        exact ⟨by rw [HFIN.out]; rfl, HB9.out⟩
    · have hkn : ¬ (j : Int) < 12 := by omega
      have HFIN := Lib.hid (agreed_none (s := s) fun i hi => HNO.out i (by omega))
      have HK6 : Hid (Blk wr W.heap.size 24 old) := Lib.hid (HK1.out.below HBQ.out HK1.out.lt)
      go_wp2_with (first
        | (guard_target = wpList _ _ _ (Oper.mk _ (.build 24 _) _ _ _ _ :: _) _ _; refine wpList_build_zero rfl rfl ?_)
        | (guard_target = wpList _ _ _ (Oper.mk _ (.store 24 _ _) _ _ _ _ :: _) _ _; refine wpList_store_idv rfl _ _ rfl W.heap.size zeroId rfl rfl zeroId_ok 24 _ HK6.out HO1.out ?_; intro W9 hS9 hz9 hb9 hk9))
      refine bodyPost_ret (results_tct (p := 3) (q := 2) (r := 4) rfl _ _ _ _ rfl (run_loadVar_idv zeroId_ok hS9)) rfl ?_
      exact ⟨by rw [HFIN.out]; rfl, (HB1.out.trans (HBQ.out.mono HB1.out.size)).trans hb9⟩
end Go.Proofs.Ytbgojlcciealiaa
