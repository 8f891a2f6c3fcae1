/-
  Layer 7's reference: the root of entries. Of any cut and any list of not more than a million entries. No condition.
-/
import Derived.Test.YtlnapnbccojohaaDoorShRef
import Derived.Deep.CutRange
import Derived.Deep.RegionHeld3
namespace Go.Proofs.YtlnapnbccojohaaDoor
open Go Go.RowKit Go.Shelf TreeM

theorem RdS.takeS {W : World} {A : Option Addr} {qs : List (List UInt8)} (h : RdS W A qs) (k : Nat) : RdS W A (qs.take k) := fun j hj => by
  rw [List.length_take] at hj
  obtain ⟨ad, e, h1, h2⟩ := h j (by omega)
  refine ⟨ad, e, h1, ?_⟩
  rw [List.getD_eq_getElem?_getD, List.getElem?_take, if_pos (by omega), ← List.getD_eq_getElem?_getD]
  exact h2
theorem RdS.dropS {W : World} {A : Option Addr} {qs : List (List UInt8)} {c : Nat} (h : RdS W A qs) (k : Nat) (hc : qs.length ≤ c) : RdS W (cutA A c k) (qs.drop k) := fun j hj => by
  rw [List.length_drop] at hj
  obtain ⟨ad, e, h1, h2⟩ := h (k + j) (by omega)
  refine ⟨ad.add k, ?_, by rw [block_add]; exact h1, ?_⟩
  · unfold cutA
    rw [if_neg (by omega), e]
    rfl
  · rw [add_add, List.getD_eq_getElem?_getD, List.getElem?_drop, ← List.getD_eq_getElem?_getD]
    exact h2
theorem RdS.oldS {w W : World} {A : Option Addr} {qs : List (List UInt8)} (h : RdS w A qs) (hb : Below w.heap.size w W) : RdS W A qs := fun k hk => by
  obtain ⟨ad, e, h1, h2⟩ := h k hk
  exact ⟨ad, e, Nat.lt_of_lt_of_le h1 hb.size, (hb.cell (p := ad.add k) (by rw [block_add]; exact h1)).trans h2⟩
set_option maxRecDepth 100000 in
set_option maxHeartbeats 4000000 in
theorem refTop_step (c : Int) (n : Nat) (ih : ∀ m, m < n → ∀ (qs : List (List UInt8)) (A : Option Addr) (cp : Nat) (w : World), qs.length = m → m ≤ 1000000 → m ≤ cp → (∀ p ∈ qs, p.length ≤ 1000000) → RdS w A qs →
      Calls Tryd.prog 21 #[.int .i64 c, .slice A m cp] w fun e w' => e = .returned (.agg (arr 32 fun i => bv (rootC c qs i))) ∧ Below w.heap.size w w')
    (qs : List (List UInt8)) (A : Option Addr) (cp : Nat) (w : World) (hn : qs.length = n) (hm : n ≤ 1000000) (hc : n ≤ cp) (hl : ∀ p ∈ qs, p.length ≤ 1000000) (hr : RdS w A qs) :
    Calls Tryd.prog 46 #[.int .i64 c, .slice A n cp] w fun e w' => e = .returned (.string ⟨(topC c qs).toArray⟩) ∧ Below w.heap.size w w' := by
  by_cases h2 : 2 ≤ n
  · have hkl := half_lt (n := n) h2
    have hkp := half_pos n
    have HHF := Lib.hid fun W => half_any n (by omega) (by omega) W
    have htop := topC_two (c := c) hn rfl h2
    obtain ⟨K, hK⟩ : ∃ K, half n = K := ⟨_, rfl⟩
    rw [hK] at hkl hkp HHF htop
    have hlt : (qs.take K).length = K := by rw [List.length_take]; omega
    have hld : (qs.drop K).length = n - K := by rw [List.length_drop]; omega
    have H1 : Hid (∀ W, Below w.heap.size w W → Calls Tryd.prog 21 #[.int .i64 c, .slice A K cp] W fun e w' => e = .returned (.agg (arr 32 fun i => bv (rootC c (qs.take K) i))) ∧ Below W.heap.size W w') := Lib.hid fun W hb => ih K hkl (qs.take K) A cp W hlt (by omega) (by omega) (fun p hp => hl p (List.mem_of_mem_take hp)) ((hr.takeS K).oldS hb)
    have H2 : Hid (∀ W, Below w.heap.size w W → Calls Tryd.prog 21 #[.int .i64 c, .slice (cutA A cp K) (n - K) (cp - K)] W fun e w' => e = .returned (.agg (arr 32 fun i => bv (rootC c (qs.drop K) i))) ∧ Below W.heap.size W w') := Lib.hid fun W hb => ih (n - K) (by omega) (qs.drop K) (cutA A cp K) (cp - K) W hld (by omega) (by omega) (fun p hp => hl p (List.mem_of_mem_drop hp)) ((hr.dropS K (by omega)).oldS hb)
    rw [htop]
    obtain ⟨x, hx⟩ : ∃ x, rootC c (qs.take K) = x := ⟨_, rfl⟩
    obtain ⟨y, hy⟩ : ∃ y, rootC c (qs.drop K) = y := ⟨_, rfl⟩
    rw [hx] at H1 ⊢
    rw [hy] at H2 ⊢
    have HT1 := Lib.hid fun W => text_any x W
    have HT2 := Lib.hid fun W => text_any y W
    obtain ⟨tx, htx⟩ : ∃ tx, id32 x = tx := ⟨_, rfl⟩
    obtain ⟨ty, hty⟩ : ∃ ty, id32 y = ty := ⟨_, rfl⟩
    have hlx : tx.length = 32 := by rw [← htx]; simp [id32]
    have hly : ty.length = 32 := by rw [← hty]; simp [id32]
    rw [htx] at HT1 ⊢
    rw [hty] at HT2 ⊢
    have hcat1 : (({ data := #[1] } : ByteArray) ++ { data := tx.toArray }) = ⟨(1 :: tx).toArray⟩ := ba_app [1] tx
    have hcat2 : (({ data := (1 :: tx).toArray } : ByteArray) ++ { data := ty.toArray }) = ⟨(1 :: (tx ++ ty)).toArray⟩ := ba_app (1 :: tx) ty
    have hno1 : ¬ (9223372036854775807 < 1 + tx.length) := by omega
    have hno2 : ¬ (9223372036854775807 < tx.length + 1 + ty.length) := by omega
    have sl1 := fun W => run_slice_to (P := Tryd.prog) 40 9 Tryd.underlying40 (by kernel_rfl) A n cp K (by omega) W
    have sl2 := fun W => run_slice_from (P := Tryd.prog) 40 9 Tryd.underlying40 (by kernel_rfl) A n cp K (by omega) W
    have e0 : ((n : Int) == 0) = false := beq_eq_false_iff_ne.2 (by omega)
    have e1 : ((n : Int) == 1) = false := beq_eq_false_iff_ne.2 (by omega)
    obtain ⟨q, hq⟩ : ∃ q, n - K = q := ⟨_, rfl⟩
    obtain ⟨d, hd⟩ : ∃ d, cp - K = d := ⟨_, rfl⟩
    obtain ⟨A2, hA2⟩ : ∃ A2, cutA A cp K = A2 := ⟨_, rfl⟩
    rw [hq, hd, hA2] at H2 sl2
    clear ih hn hm hc hl hr h2 hkl hkp htop hK hlt hld hx hy hq hd hA2 htx hty hlx hly
    have hb0 : Below w.heap.size w w := Below.refl _ _
    go_enter Tryd.func46, Tryd.ntmps46
    go_upto_region 6 with (go_at_call 43; refine (HHF.out _).mono ?_; rintro e W0 ⟨rfl, h0⟩; obtain rfl := h0.symm; clear HHF)
    have hbX : Below w.heap.size w w.drew := hb0.drew
    refine wp_region_held_drew (S := fun _ => True) (by kernel_rfl) ?_ (fun hHeld => ?_)
    · exact trivial
    refine wpAnyH_take (i := 0) (oi := ⟨some 19, _, _, _, _, _⟩) (v := ?_) rfl (by kernel_rfl) (by kernel_rfl) (by kernel_rfl) (fun _ _ _ h => h) (Or.inl ⟨by rfl, ?_⟩) (by assumption) ?_
    rotate_left
    · intro w hSw; (try dsimp only at hSw); go_simp; try (with_reducible rfl)
    rotate_left 0
    try simp only [Act.put, List.setIfInBounds_toArray, List.set_cons_zero, List.set_cons_succ]
    refine wpAnyH_take (i := 1) (oi := ⟨some 20, _, _, _, _, _⟩) (v := ?_) rfl (by kernel_rfl) (by kernel_rfl) (by kernel_rfl) (fun _ _ _ h => h) (Or.inl ⟨by rfl, ?_⟩) (by assumption) ?_
    rotate_left
    · intro w hSw; (try dsimp only at hSw); go_simp; try (with_reducible rfl)
    rotate_left 0
    try simp only [Act.put, List.setIfInBounds_toArray, List.set_cons_zero, List.set_cons_succ]
    refine wpAnyH_take (i := 2) (oi := ⟨some 21, _, _, _, _, _⟩) (v := ?_) rfl (by kernel_rfl) (by kernel_rfl) (by kernel_rfl) (fun _ _ _ h => h) (Or.inl ⟨by rfl, ?_⟩) (by assumption) ?_
    rotate_left
    · intro w hSw; (try dsimp only at hSw); go_simp; try (with_reducible rfl)
    rotate_left 0
    try simp only [Act.put, List.setIfInBounds_toArray, List.set_cons_zero, List.set_cons_succ]
    refine wpAnyH_take (i := 3) (oi := ⟨some 22, _, _, _, _, _⟩) (v := ?_) rfl (by kernel_rfl) (by kernel_rfl) (by kernel_rfl) (fun _ _ _ h => h) (Or.inl ⟨by rfl, ?_⟩) (by assumption) ?_
    rotate_left
    · intro w hSw; (try dsimp only at hSw); go_simp; try (with_reducible rfl)
    rotate_left 0
    try simp only [Act.put, List.setIfInBounds_toArray, List.set_cons_zero, List.set_cons_succ]
    refine wpAnyH_take (i := 7) (oi := ⟨some 26, _, _, _, _, _⟩) (v := ?_) rfl (by kernel_rfl) (by kernel_rfl) (by kernel_rfl) (fun _ _ _ h => h) (Or.inl ⟨by rfl, ?_⟩) (by assumption) ?_
    rotate_left
    · intro w hSw; (try dsimp only at hSw); go_simp; try (with_reducible rfl)
    rotate_left 0
    try simp only [Act.put, List.setIfInBounds_toArray, List.set_cons_zero, List.set_cons_succ]
    refine wpAnyH_take (i := 8) (oi := ⟨some 27, _, _, _, _, _⟩) (v := ?_) rfl (by kernel_rfl) (by kernel_rfl) (by kernel_rfl) (fun _ _ _ h => h) (Or.inl ⟨by rfl, ?_⟩) (by assumption) ?_
    rotate_left
    · intro w hSw; (try dsimp only at hSw); go_simp; try (with_reducible rfl)
    rotate_left 0
    try simp only [Act.put, List.setIfInBounds_toArray, List.set_cons_zero, List.set_cons_succ]
    refine wpAnyH_take (i := 9) (oi := ⟨some 28, _, _, _, _, _⟩) (v := ?_) rfl (by kernel_rfl) (by kernel_rfl) (by kernel_rfl) (fun _ _ _ h => h) (Or.inl ⟨by rfl, ?_⟩) (by assumption) ?_
    rotate_left
    · intro w hSw; (try dsimp only at hSw); go_simp; try (with_reducible rfl)
    rotate_left 0
    try simp only [Act.put, List.setIfInBounds_toArray, List.set_cons_zero, List.set_cons_succ]
    refine wpAnyH_take (i := 10) (oi := ⟨some 29, _, _, _, _, _⟩) (v := ?_) rfl (by kernel_rfl) (by kernel_rfl) (by kernel_rfl) (fun _ _ _ h => h) (Or.inl ⟨by rfl, ?_⟩) (by assumption) ?_
    rotate_left
    · intro w hSw; (try dsimp only at hSw); go_simp; try (with_reducible rfl)
    rotate_left 0
    try simp only [Act.put, List.setIfInBounds_toArray, List.set_cons_zero, List.set_cons_succ]
    refine wpAnyH_ready (rs := [4]) (by kernel_rfl) (by simp) ?_
    refine (AllReadyH.cons (o := ⟨some 23, _, _, _, _, _⟩) rfl (fun K hK => ?_) AllReadyH.nil)
    (try rw [if_pos (by rfl)])
    go_simp
    refine (H1.out _ hbX).mono ?_
    rintro e Wa ⟨rfl, hbWa⟩
    replace hbX := hbX.trans (hbWa.mono hbX.size)
    clear hbWa
    try dsimp only
    refine hK.out _ _ (trivial) (fun hHeld => ?_)
    clear hK K
    try simp only [Act.put, List.setIfInBounds_toArray, List.set_cons_zero, List.set_cons_succ]
    refine wpAnyH_ready (rs := [5]) (by kernel_rfl) (by simp) ?_
    refine (AllReadyH.cons (o := ⟨some 24, _, _, _, _, _⟩) rfl (fun K hK => ?_) AllReadyH.nil)
    (try rw [if_pos (by rfl)])
    go_simp
    refine (HT1.out _).mono ?_
    rintro e Wb ⟨rfl, hbWb⟩
    replace hbX := hbX.trans (hbWb.mono hbX.size)
    clear hbWb
    try dsimp only
    refine hK.out _ _ (trivial) (fun hHeld => ?_)
    clear hK K
    try simp only [Act.put, List.setIfInBounds_toArray, List.set_cons_zero, List.set_cons_succ]
    refine wpAnyH_take (i := 6) (oi := ⟨some 25, _, _, _, _, _⟩) (v := ?_) rfl (by kernel_rfl) (by kernel_rfl) (by kernel_rfl) (fun _ _ _ h => h) (Or.inl ⟨by rfl, ?_⟩) (by assumption) ?_
    rotate_left
    · intro w hSw; (try dsimp only at hSw); go_simp; try (with_reducible rfl)
    rotate_left 0
    try simp only [Act.put, List.setIfInBounds_toArray, List.set_cons_zero, List.set_cons_succ]
    refine wpAnyH_ready (rs := [11]) (by kernel_rfl) (by simp) ?_
    refine (AllReadyH.cons (o := ⟨some 30, _, _, _, _, _⟩) rfl (fun K hK => ?_) AllReadyH.nil)
    (try rw [if_pos (by rfl)])
    go_simp
    refine (H2.out _ hbX).mono ?_
    rintro e Wc ⟨rfl, hbWc⟩
    replace hbX := hbX.trans (hbWc.mono hbX.size)
    clear hbWc
    try dsimp only
    refine hK.out _ _ (trivial) (fun hHeld => ?_)
    clear hK K
    try simp only [Act.put, List.setIfInBounds_toArray, List.set_cons_zero, List.set_cons_succ]
    refine wpAnyH_ready (rs := [12]) (by kernel_rfl) (by simp) ?_
    refine (AllReadyH.cons (o := ⟨some 31, _, _, _, _, _⟩) rfl (fun K hK => ?_) AllReadyH.nil)
    (try rw [if_pos (by rfl)])
    go_simp
    refine (HT2.out _).mono ?_
    rintro e Wd ⟨rfl, hbWd⟩
    replace hbX := hbX.trans (hbWd.mono hbX.size)
    clear hbWd
    try dsimp only
    refine hK.out _ _ (trivial) (fun hHeld => ?_)
    clear hK K
    try simp only [Act.put, List.setIfInBounds_toArray, List.set_cons_zero, List.set_cons_succ]
    refine wpAnyH_take (i := 13) (oi := ⟨some 32, _, _, _, _, _⟩) (v := ?_) rfl (by kernel_rfl) (by kernel_rfl) (by kernel_rfl) (fun _ _ _ h => h) (Or.inl ⟨by rfl, ?_⟩) (by assumption) ?_
    rotate_left
    · intro w hSw; (try dsimp only at hSw); go_simp; try (with_reducible rfl)
    rotate_left 0
    try simp only [Act.put, List.setIfInBounds_toArray, List.set_cons_zero, List.set_cons_succ]
    refine wpAnyH_take (i := 14) (oi := ⟨some 4, _, _, _, _, _⟩) (v := ?_) rfl (by kernel_rfl) (by kernel_rfl) (by kernel_rfl) (fun _ _ _ h => h) (Or.inl ⟨by rfl, ?_⟩) (by assumption) ?_
    rotate_left
    · intro w hSw; (try dsimp only at hSw); go_simp; try (with_reducible rfl)
    rotate_left 0
    try simp only [Act.put, List.setIfInBounds_toArray, List.set_cons_zero, List.set_cons_succ]
    refine wpAnyH_done (by kernel_rfl) ?_ _
    go_wp2_with fail
    go_ret
    exact ⟨rfl, hbX⟩
  · by_cases h0 : n = 0
    · subst h0
      obtain rfl : qs = [] := List.eq_nil_of_length_eq_zero hn
      rw [topC_none]
      clear ih hn hm hc hl hr h2
      go_enter Tryd.func46, Tryd.ntmps46
      go_wp2
      go_ret
      exact ⟨rfl, Below.refl _ _⟩
    · obtain rfl : n = 1 := by omega
      obtain ⟨p, rfl⟩ : ∃ p, qs = [p] := by
        match qs, hn with
        | [p], _ => exact ⟨p, rfl⟩
      rw [topC_one]
      obtain ⟨ad, rfl, _, hcell⟩ := hr 0 (by simp)
      have hpl := hl p (by simp)
      rw [show ([p] : List (List UInt8)).getD 0 [] = p from rfl, show ad.add 0 = ad from by simp [Addr.add]] at hcell
      have hcat : (({ data := #[0] } : ByteArray) ++ { data := p.toArray }) = ⟨(0 :: p).toArray⟩ := ba_app [0] p
      have hno : ¬ (9223372036854775807 < 1 + p.length) := by omega
      clear ih hn hm hc hl hr h2 h0 hpl
      go_enter Tryd.func46, Tryd.ntmps46
      go_wp2
      go_ret
      exact ⟨rfl, Below.refl _ _⟩
set_option maxRecDepth 100000 in
set_option maxHeartbeats 4000000 in
theorem refRootS_any (c : Int) : ∀ (n : Nat) (qs : List (List UInt8)) (A : Option Addr) (cp : Nat) (w : World), qs.length = n → n ≤ 1000000 → n ≤ cp → (∀ p ∈ qs, p.length ≤ 1000000) → RdS w A qs →
    Calls Tryd.prog 21 #[.int .i64 c, .slice A n cp] w fun e w' => e = .returned (.agg (arr 32 fun i => bv (rootC c qs i))) ∧ Below w.heap.size w w' := by
  intro n
  induction n using Nat.strongRecOn with
  | _ n ih =>
    intro qs A cp w hn hm hc hl hr
    have HTT : Hid (∀ W, Below w.heap.size w W → Calls Tryd.prog 46 #[.int .i64 c, .slice A n cp] W fun e w' => e = .returned (.string ⟨(topC c qs).toArray⟩) ∧ Below W.heap.size W w') := Lib.hid fun W hb => refTop_step c n ih qs A cp W hn hm hc hl (hr.oldS hb)
    have htl := topC_length c qs hl
    have HSU : Hid (∀ W, Calls Tryd.prog 26 #[.int .i64 c, .string ⟨(topC c qs).toArray⟩] W fun e w' => e = .returned (.agg (arr 32 fun i => bv (rootC c qs i))) ∧ Below W.heap.size W w') := Lib.hid fun W => refSumS_any c (topC c qs) (by omega) W
    obtain ⟨R, hR⟩ : ∃ R, rootC c qs = R := ⟨_, rfl⟩
    rw [hR] at HSU ⊢
    obtain ⟨S, hS⟩ : ∃ S, (⟨(topC c qs).toArray⟩ : ByteArray) = S := ⟨_, rfl⟩
    rw [hS] at HSU HTT
    have hZ32 : Hid (Array.replicate 32 (bv 0) = arr 32 fun _ => bv 0) := Lib.hid (by rw [← upto_none 32 (fun _ => bv 0) (bv 0)]; exact arr_congr fun i _ => by simp)
    clear ih hn hm hc hl hr htl hR hS
    go_enter Tryd.func21, Tryd.ntmps21
    go_wp2_with fail
    generalize hW : World.alloc w _ = W
    have hb0 : Below w.heap.size w W := by rw [← hW]; exact (Below.refl _ _).alloc (Nat.le_refl _) _
    have k4 : Blk W w.heap.size 23 (arr 32 fun _ => bv 0) := by rw [← hW]; exact Blk.newAt _ _ rfl hZ32.out
    have HB0 := Lib.hid hb0
    have K4 := Lib.hid k4
    clear hW hb0 k4
    go_wp2_with (first
      | (go_at_call 46; refine (HTT.out _ HB0.out).mono ?_; rintro e W1 ⟨rfl, hb1⟩; have HB1 := Lib.hid (HB0.out.trans (hb1.mono HB0.out.size)); have J4 := Lib.hid (K4.out.below hb1 K4.out.lt); clear hb1 HTT)
      | (go_at_call 26; refine (HSU.out _).mono ?_; rintro e W2 ⟨rfl, hb2⟩; have HB2 := Lib.hid (HB1.out.trans (hb2.mono HB1.out.size)); have M4 := Lib.hid (J4.out.below hb2 J4.out.lt); clear hb2 HSU)
      | (refine wpList_store_arrW rfl 23 _ _ rfl w.heap.size (arr 32 fun i => bv (R i)) rfl rfl 23 _ M4.out (by rw [arr_size]; kernel_rfl) (by simp only [arr_size]) (arr_all_bv _ _) ?_; intro W3 hS3 hz3 hb3 hk3))
    refine bodyPost_ret (results_cell_row (p := 4) (ty := 23) rfl _ _ w.heap.size 23 _ (0, 0) _ rfl hS3 Tryd.underlying23 rfl (by rw [arr_size]; kernel_rfl)) rfl ⟨rfl, HB2.out.trans hb3⟩
end Go.Proofs.YtlnapnbccojohaaDoor
