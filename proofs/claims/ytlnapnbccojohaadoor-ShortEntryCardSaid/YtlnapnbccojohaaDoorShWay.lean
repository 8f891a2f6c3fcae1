/-
  short's way of an entry: of any cut, list and place, in whatever memory in which the tables lie; it leads to the root. No condition.
-/
import Derived.Test.YtlnapnbccojohaaDoorShMath
import Derived.Test.YtlnapnbccojohaaDoorIdMore
namespace Go.Proofs.YtlnapnbccojohaaDoor
open Go Go.RowKit Go.Shelf TreeM

/-- The way of an entry, the lowest first. -/
def wayC (c : Int) (ps : List (List UInt8)) (a : Nat) : List D :=
  if _h : 2 ≤ ps.length then
    if a < half ps.length then wayC c (ps.take (half ps.length)) a ++ [rootC c (ps.drop (half ps.length))]
    else wayC c (ps.drop (half ps.length)) (a - half ps.length) ++ [rootC c (ps.take (half ps.length))]
  else []
termination_by ps.length
decreasing_by
  · have := half_lt (n := ps.length) _h
    rw [List.length_take]; omega
  · have := half_pos ps.length
    rw [List.length_drop]; omega
theorem wayC_low {c : Int} {ps : List (List UInt8)} {a n K : Nat} (hn : ps.length = n) (hK : half n = K) (h2 : 2 ≤ n) (h : a < K) : wayC c ps a = wayC c (ps.take K) a ++ [rootC c (ps.drop K)] := by
  subst hn hK
  conv => lhs; rw [wayC]
  rw [dif_pos h2, if_pos h]
theorem wayC_high {c : Int} {ps : List (List UInt8)} {a n K : Nat} (hn : ps.length = n) (hK : half n = K) (h2 : 2 ≤ n) (h : ¬ a < K) : wayC c ps a = wayC c (ps.drop K) (a - K) ++ [rootC c (ps.take K)] := by
  subst hn hK
  conv => lhs; rw [wayC]
  rw [dif_pos h2, if_neg h]
theorem wayC_end {c : Int} {ps : List (List UInt8)} {a n : Nat} (hn : ps.length = n) (h2 : ¬ 2 ≤ n) : wayC c ps a = [] := by
  subst hn
  rw [wayC, dif_neg h2]
/-- An entry's own way has the right length and leads to the top text. -/
theorem wayC_leads (c : Int) : ∀ (n : Nat) (ps : List (List UInt8)) (a : Nat), ps.length = n → a < n → (wayC c ps a).length = (stepsB a (n - 1)).length ∧ topP c (stepsB a (n - 1)) (wayC c ps a) (0 :: ps.getD a []) = topC c ps := by
  intro n
  induction n using Nat.strongRecOn with
  | _ n ih =>
    intro ps a hn ha
    by_cases h2 : 2 ≤ n
    · have hkl := half_lt (n := n) h2
      have hkp := half_pos n
      rw [steps_split n a h2 ha, topC_two hn rfl h2]
      by_cases hk : a < half n
      · have hi := ih (half n) hkl (ps.take (half n)) a (by rw [List.length_take]; omega) hk
        rw [if_pos hk, wayC_low hn rfl h2 hk]
        refine ⟨by simp [hi.1], ?_⟩
        rw [topP_snoc _ _ _ _ _ _ hi.1.symm]
        have e : (ps.take (half n)).getD a [] = ps.getD a [] := by rw [List.getD_eq_getElem?_getD, List.getElem?_take, if_pos hk, ← List.getD_eq_getElem?_getD]
        rw [e] at hi
        rw [hi.2]
        rfl
      · have hi := ih (n - half n) (by omega) (ps.drop (half n)) (a - half n) (by rw [List.length_drop]; omega) (by omega)
        rw [if_neg hk, wayC_high hn rfl h2 hk]
        refine ⟨by simp [hi.1], ?_⟩
        rw [topP_snoc _ _ _ _ _ _ hi.1.symm]
        have e : (ps.drop (half n)).getD (a - half n) [] = ps.getD a [] := by rw [List.getD_eq_getElem?_getD, List.getElem?_drop, show half n + (a - half n) = a from by omega, ← List.getD_eq_getElem?_getD]
        rw [e] at hi
        rw [hi.2]
        rfl
    · obtain rfl : n = 1 := by omega
      obtain rfl : a = 0 := by omega
      rw [wayC_end hn h2, show 1 - 1 = 0 from rfl, stepsB_end]
      match ps, hn with
      | [p], _ => rw [topC_one]; exact ⟨rfl, rfl⟩
theorem wayC_length (c : Int) (n : Nat) (ps : List (List UInt8)) (a : Nat) (hn : ps.length = n) (ha : a < n) (hm : n ≤ 1000000) : (wayC c ps a).length ≤ 20 := by
  rw [(wayC_leads c n ps a hn ha).1]
  exact steps_length 20 a (n - 1) (by omega)
set_option maxRecDepth 100000 in
set_option maxHeartbeats 4000000 in
theorem wayOf_anyC (c : Int) : ∀ (n : Nat) (ps : List (List UInt8)) (a : Nat) (A : Option Addr) (cp : Nat) (w : World), ps.length = n → a < n → n ≤ 1000000 → n ≤ cp → (∀ p ∈ ps, p.length ≤ 1000000) → Tables w → RdP w (fun b => b < w.heap.size) A ps →
    Calls Tryd.prog 50 #[.int .i64 c, .slice A n cp, .int .i64 (a : Int)] w fun e w' => ∃ v', e = .returned v' ∧ w'.ownsRow w.heap.size 23 32 v' (wayC c ps a).length (idCells (wayC c ps a)) ∧ Below w.heap.size w w' := by
  intro n
  induction n using Nat.strongRecOn with
  | _ n ih =>
    intro ps a A cp w hn ha hm hc hl hT hr
    by_cases h2 : 2 ≤ n
    · have hkl := half_lt (n := n) h2
      have hkp := half_pos n
      have HHA := Lib.hid (halvesS_any A n cp h2 hm hc w)
      obtain ⟨K, hK⟩ : ∃ K, half n = K := ⟨_, rfl⟩
      rw [hK] at hkl hkp HHA
      have hlt : (ps.take K).length = K := by rw [List.length_take]; omega
      have hld : (ps.drop K).length = n - K := by rw [List.length_drop]; omega
      have e1 : ((n : Int) == 1) = false := beq_eq_false_iff_ne.2 (by omega)
      by_cases haK : a < K
      · rw [wayC_low hn hK h2 haK]
        have IH : Hid (∀ W, Below w.heap.size w W → Calls Tryd.prog 50 #[.int .i64 c, .slice A K cp, .int .i64 (a : Int)] W fun e w' => ∃ v', e = .returned v' ∧ w'.ownsRow W.heap.size 23 32 v' (wayC c (ps.take K) a).length (idCells (wayC c (ps.take K) a)) ∧ Below W.heap.size W w') := Lib.hid fun W hb => by
          have := ih K (by omega) (ps.take K) a A cp W hlt (by omega) (by omega) (by omega) (fun p hp => hl p (List.mem_of_mem_take hp)) (hT.below hb) ((hr.takeS K).oldS hb)
        
          exact this
        have HRT : Hid (∀ W, Below w.heap.size w W → Calls Tryd.prog 20 #[.int .i64 c, .slice (cutA A cp K) (n - K) (cp - K)] W fun e w' => e = .returned (.agg (arr 32 fun i => bv (rootC c (ps.drop K) i))) ∧ Below W.heap.size W w') := Lib.hid fun W hb => root_any c (n - K) (ps.drop K) (cutA A cp K) (cp - K) W hld (by omega) (by omega) (fun p hp => hl p (List.mem_of_mem_drop hp)) (hT.below hb) ((hr.dropS K (by omega)).oldS hb)
        have hwl := wayC_length c K (ps.take K) a hlt (by omega) (by omega)
        obtain ⟨ra, hra⟩ : ∃ ra, rootC c (ps.drop K) = ra := ⟨_, rfl⟩
        obtain ⟨PL, hPL⟩ : ∃ PL, wayC c (ps.take K) a = PL := ⟨_, rfl⟩
        rw [hra] at HRT ⊢
        rw [hPL] at IH hwl ⊢
        obtain ⟨q, hq⟩ : ∃ q, n - K = q := ⟨_, rfl⟩
        obtain ⟨d, hd⟩ : ∃ d, cp - K = d := ⟨_, rfl⟩
        obtain ⟨A2, hA2⟩ : ∃ A2, cutA A cp K = A2 := ⟨_, rfl⟩
        rw [hq, hd, hA2] at HHA
        rw [hq, hd, hA2] at HRT
        have haKi : (a : Int) < (K : Int) := by omega
        have hai : (a : Int) ≤ 1000000 := by omega
        have hKi : (K : Int) ≤ 1000000 := by omega
        have ha0 : (0 : Int) ≤ (a : Int) := by omega
        have hK0 : (0 : Int) ≤ (K : Int) := by omega
        have HWL := Lib.hid hwl
        clear ih hn hm hc hl hT hr h2 hkl hkp hK hlt hld hra hPL hq hd hA2 ha hwl
        go_enter Tryd.func50, Tryd.ntmps50
        go_wp2_with (first
          | (go_at_call 62; refine HHA.out.mono ?_; rintro e W1 ⟨rfl, hb1⟩; have HB1 := Lib.hid hb1; clear hb1 HHA)
          | (go_at_call 50; refine (IH.out _ HB1.out).mono ?_; rintro e W2 ⟨v', rfl, ho, hb2⟩; have HS2 := Lib.hid hb2.size; have HO2 := Lib.hid ho; have HB2 := Lib.hid (HB1.out.trans (hb2.mono HB1.out.size)); clear hb2 ho IH)
          | (go_at_call 20; refine (HRT.out _ HB2.out).mono ?_; rintro e W3 ⟨rfl, hb3⟩; have HS3 := Lib.hid (Nat.le_trans HS2.out hb3.size); have HO3 := Lib.hid (Turn.own (Turn.of_below hb3) HO2.out (fun i hi => by have := (HO2.out.lt i hi).2; omega)); have HB3 := Lib.hid (HB2.out.trans (hb3.mono HB2.out.size)); obtain ⟨g, cap, W7, hrun, ho7, hb7⟩ := id_more (f := ra) HS3.out HB3.out HB1.out.size HO3.out (by have := HWL.out; omega); have R7 := Lib.hid hrun; have HO7 := Lib.hid ho7; have HB7 := Lib.hid hb7; clear hrun ho7 hb7 hb3 HRT)
          | (guard_target = wpList _ _ _ (Oper.mk _ (.buildSlice _ _ _) _ _ _ _ :: _) _ _; go_must (refine wpList_build_idI rfl _ rfl ra rfl ?_))
          | (at_builtin; refine wpList_append_run rfl (.tmp 24) (.tmp 28) _ _ rfl _ _ rfl rfl _ _ R7.out ?_))
        go_ret
        exact ⟨_, rfl, by rw [List.length_append]; exact own_mono HO7.out HB1.out.size, HB7.out⟩
      · rw [wayC_high hn hK h2 haK]
        have IH : Hid (∀ W, Below w.heap.size w W → Calls Tryd.prog 50 #[.int .i64 c, .slice (cutA A cp K) (n - K) (cp - K), .int .i64 ((a : Int) - (K : Int))] W fun e w' => ∃ v', e = .returned v' ∧ w'.ownsRow W.heap.size 23 32 v' (wayC c (ps.drop K) (a - K)).length (idCells (wayC c (ps.drop K) (a - K))) ∧ Below W.heap.size W w') := Lib.hid fun W hb => by
          have := ih (n - K) (by omega) (ps.drop K) (a - K) (cutA A cp K) (cp - K) W hld (by omega) (by omega) (by omega) (fun p hp => hl p (List.mem_of_mem_drop hp)) (hT.below hb) ((hr.dropS K (by omega)).oldS hb)
          rw [Int.natCast_sub (by omega)] at this
          exact this
        have HRT : Hid (∀ W, Below w.heap.size w W → Calls Tryd.prog 20 #[.int .i64 c, .slice A K cp] W fun e w' => e = .returned (.agg (arr 32 fun i => bv (rootC c (ps.take K) i))) ∧ Below W.heap.size W w') := Lib.hid fun W hb => root_any c K (ps.take K) A cp W hlt (by omega) (by omega) (fun p hp => hl p (List.mem_of_mem_take hp)) (hT.below hb) ((hr.takeS K).oldS hb)
        have hwl := wayC_length c (n - K) (ps.drop K) (a - K) hld (by omega) (by omega)
        obtain ⟨ra, hra⟩ : ∃ ra, rootC c (ps.take K) = ra := ⟨_, rfl⟩
        obtain ⟨PL, hPL⟩ : ∃ PL, wayC c (ps.drop K) (a - K) = PL := ⟨_, rfl⟩
        rw [hra] at HRT ⊢
        rw [hPL] at IH hwl ⊢
        obtain ⟨q, hq⟩ : ∃ q, n - K = q := ⟨_, rfl⟩
        obtain ⟨d, hd⟩ : ∃ d, cp - K = d := ⟨_, rfl⟩
        obtain ⟨A2, hA2⟩ : ∃ A2, cutA A cp K = A2 := ⟨_, rfl⟩
        rw [hq, hd, hA2] at HHA
        rw [hq, hd, hA2] at IH
        have haKi : ¬ (a : Int) < (K : Int) := by omega
        have hai : (a : Int) ≤ 1000000 := by omega
        have hKi : (K : Int) ≤ 1000000 := by omega
        have ha0 : (0 : Int) ≤ (a : Int) := by omega
        have hK0 : (0 : Int) ≤ (K : Int) := by omega
        have HWL := Lib.hid hwl
        clear ih hn hm hc hl hT hr h2 hkl hkp hK hlt hld hra hPL hq hd hA2 ha hwl
        go_enter Tryd.func50, Tryd.ntmps50
        go_wp2_with (first
          | (go_at_call 62; refine HHA.out.mono ?_; rintro e W1 ⟨rfl, hb1⟩; have HB1 := Lib.hid hb1; clear hb1 HHA)
          | (go_at_call 50; refine (IH.out _ HB1.out).mono ?_; rintro e W2 ⟨v', rfl, ho, hb2⟩; have HS2 := Lib.hid hb2.size; have HO2 := Lib.hid ho; have HB2 := Lib.hid (HB1.out.trans (hb2.mono HB1.out.size)); clear hb2 ho IH)
          | (go_at_call 20; refine (HRT.out _ HB2.out).mono ?_; rintro e W3 ⟨rfl, hb3⟩; have HS3 := Lib.hid (Nat.le_trans HS2.out hb3.size); have HO3 := Lib.hid (Turn.own (Turn.of_below hb3) HO2.out (fun i hi => by have := (HO2.out.lt i hi).2; omega)); have HB3 := Lib.hid (HB2.out.trans (hb3.mono HB2.out.size)); obtain ⟨g, cap, W7, hrun, ho7, hb7⟩ := id_more (f := ra) HS3.out HB3.out HB1.out.size HO3.out (by have := HWL.out; omega); have R7 := Lib.hid hrun; have HO7 := Lib.hid ho7; have HB7 := Lib.hid hb7; clear hrun ho7 hb7 hb3 HRT)
          | (guard_target = wpList _ _ _ (Oper.mk _ (.buildSlice _ _ _) _ _ _ _ :: _) _ _; go_must (refine wpList_build_idI rfl _ rfl ra rfl ?_))
          | (at_builtin; refine wpList_append_run rfl (.tmp 36) (.tmp 40) _ _ rfl _ _ rfl rfl _ _ R7.out ?_))
        go_ret
        exact ⟨_, rfl, by rw [List.length_append]; exact own_mono HO7.out HB1.out.size, HB7.out⟩
    · obtain rfl : n = 1 := by omega
      rw [wayC_end hn h2]
      clear ih hn hm hc hl hT hr h2 ha
      go_enter Tryd.func50, Tryd.ntmps50
      go_wp2
      go_ret
      exact ⟨_, rfl, World.ownsRow_nil _ _ _ _, Below.refl _ _⟩
end Go.Proofs.YtlnapnbccojohaaDoor
