/-
  short's Leads: of any entry, place, size, path and root, in whatever memory in which the tables lie. No condition.
-/
import Derived.Test.YtlnapnbccojohaaDoorShText
import Derived.Test.YtlnapnbccojohaaDoorShEq
namespace Go.Proofs.YtlnapnbccojohaaDoor
open Go Go.RowKit Go.Shelf TreeM

/-- Leads' answer. -/
def leadsV (c : Int) (entry : List UInt8) (a n : Int) (path : List D) (root : D) : Bool :=
  if a < 0 ∨ n ≤ a ∨ 1099511627776 < n then false
  else decide (path.length = (stepsB a.toNat (n.toNat - 1)).length) && (id32 (cutD c (sha (topP c (stepsB a.toNat (n.toNat - 1)) path (0 :: entry)))) == id32 root)
set_option maxRecDepth 100000 in
set_option maxHeartbeats 4000000 in
theorem leadsS_range (c : Int) (Ae : Option Addr) (ne ce : Nat) (a n : Int) (v : Value) (root : D) (w : World) (h : a < 0 ∨ n ≤ a ∨ 1099511627776 < n) :
    Calls Tryd.prog 29 #[.int .i64 c, .slice Ae ne ce, .int .i64 a, .int .i64 n, v, .agg (arr 32 fun i => bv (root i))] w fun e w' => e = .returned (.bool false) ∧ Below w.heap.size w w' := by
  have hb0 : Below w.heap.size w (w.alloc (.cells (arr 32 fun i => bv (root i)) 23)) := (Below.refl _ _).alloc (Nat.le_refl _) _
  generalize (arr 32 fun i => bv (root i)) = x1 at *
  by_cases h0 : a < 0
  · have d0 : decide (a < 0) = true := decide_eq_true h0
    clear h
    go_enter Tryd.func29, Tryd.ntmps29
    go_wp2
    go_ret
    exact ⟨rfl, hb0⟩
  · have d0 : decide (a < 0) = false := decide_eq_false h0
    by_cases h1 : n ≤ a
    · have d1 : decide (n ≤ a) = true := decide_eq_true h1
      clear h
      go_enter Tryd.func29, Tryd.ntmps29
      go_wp2
      go_ret
      exact ⟨rfl, hb0⟩
    · have d1 : decide (n ≤ a) = false := decide_eq_false h1
      have h2 : 1099511627776 < n := by omega
      have d2 : decide (1099511627776 < n) = true := decide_eq_true h2
      clear h
      go_enter Tryd.func29, Tryd.ntmps29
      go_wp2
      go_ret
      exact ⟨rfl, hb0⟩
set_option maxRecDepth 100000 in
set_option maxHeartbeats 4000000 in
theorem leadsS_in (c : Int) (Ae : Option Addr) (ne ce : Nat) (entry : List UInt8) (a n : Nat) (v : Value) (path : List D) (root : D) (w : World) (hT : Tables w) (he : RdB w (fun b => b < w.heap.size) (.slice Ae ne ce) entry) (hne : entry.length = ne) (hle : ne ≤ 1000000) (ha : a < n) (hn : n ≤ 1099511627776) (hr : RdI w (fun b => b < w.heap.size) v path) (h70 : path.length ≤ 100) :
    Calls Tryd.prog 29 #[.int .i64 c, .slice Ae ne ce, .int .i64 (a : Int), .int .i64 (n : Int), v, .agg (arr 32 fun i => bv (root i))] w fun e w' => e = .returned (.bool (leadsV c entry (a : Int) (n : Int) path root)) ∧ Below w.heap.size w w' := by
  have hV : leadsV c entry (a : Int) (n : Int) path root = (decide (path.length = (stepsB a (n - 1)).length) && (id32 (cutD c (sha (topP c (stepsB a (n - 1)) path (0 :: entry)))) == id32 root)) := by
    unfold leadsV
    rw [if_neg (by omega), Int.toNat_natCast, Int.toNat_natCast]
  rw [hV]
  have hb0 : Below w.heap.size w (w.alloc (.cells (arr 32 fun i => bv (root i)) 23)) := (Below.refl _ _).alloc (Nat.le_refl _) _
  have k0 : Blk (w.alloc (.cells (arr 32 fun i => bv (root i)) 23)) w.heap.size 23 (arr 32 fun i => bv (root i)) := Blk.new w _ _
  have HTX := Lib.hid (textsOf_any c Ae ne ce entry a n v path (w.alloc (.cells (arr 32 fun i => bv (root i)) 23)) (hT.below hb0) ((he.kept fun a x ha h => (hb0.cell (p := a) ha).trans h).mono fun b hb' => Nat.lt_of_lt_of_le hb' hb0.size) hne hle ha hn ((hr.old hb0).mono fun b hb' => Nat.lt_of_lt_of_le hb' hb0.size) h70)
  have d0 : decide ((a : Int) < 0) = false := decide_eq_false (by omega)
  have d1 : decide ((n : Int) ≤ (a : Int)) = false := decide_eq_false (by omega)
  have d2 : decide (1099511627776 < (n : Int)) = false := decide_eq_false (by omega)
  have hna : ¬ n ≤ a := by omega
  have hnb : n ≤ 1099511627776 := hn
  have HB0 := Lib.hid hb0
  have K0 := Lib.hid k0
  have HT := Lib.hid hT
  by_cases hlen : path.length = (stepsB a (n - 1)).length
  · have hR : textsC c entry a n path = textsP c (stepsB a (n - 1)) path (0 :: entry) := by unfold textsC; rw [if_pos hlen]
    have hlast := textsP_last c (stepsB a (n - 1)) path (0 :: entry)
    have hll := textsP_length c (stepsB a (n - 1)) path (0 :: entry) hlen.symm
    have htl : (topP c (stepsB a (n - 1)) path (0 :: entry)).length ≤ 1000001 := by
      have : ∀ (bs : List Bool) (xs : List D) (t : List UInt8), t.length ≤ 1000001 → (topP c bs xs t).length ≤ 1000001 := by
        intro bs
        induction bs with
        | nil => intro xs t h; cases xs <;> exact h
        | cons b bs ih =>
          intro xs t h
          cases xs with
          | nil => exact h
          | cons x xs => exact ih xs _ (by rw [side_length]; omega)
      exact this _ _ _ (by simp; omega)
    rw [hR] at HTX
    rw [decide_eq_true hlen, Bool.true_and]
    obtain ⟨ts, hts⟩ : ∃ ts, textsP c (stepsB a (n - 1)) path (0 :: entry) = ts := ⟨_, rfl⟩
    obtain ⟨top, htop⟩ : ∃ top, topP c (stepsB a (n - 1)) path (0 :: entry) = top := ⟨_, rfl⟩
    rw [hts] at HTX hll hlast
    rw [htop] at hlast htl ⊢
    obtain ⟨k, hk⟩ : ∃ k, ts.length = k + 1 := ⟨_, hll⟩
    have hkb : k ≤ 100 := by omega
    have HLK : Hid (ts.getD k [] = top) := Lib.hid (by
      rw [List.getLast?_eq_getElem?, hk, Nat.add_sub_cancel] at hlast
      rw [List.getD_eq_getElem?_getD, hlast]
      rfl)
    have HSX : Hid (∀ Ax nx cx W, Below w.heap.size w W → RdB W (fun b => b < W.heap.size) (.slice Ax nx cx) top → Calls Tryd.prog 25 #[.int .i64 c, .slice Ax nx cx] W fun e w' => e = .returned (.agg (arr 32 fun i => bv ((cutD c (sha top)) i))) ∧ Below W.heap.size W w') := Lib.hid fun Ax nx cx W hb h => csum_any c _ top (by omega) W (HT.out.below hb) h
    obtain ⟨S, hS⟩ : ∃ S, cutD c (sha top) = S := ⟨_, rfl⟩
    rw [hS] at HSX ⊢
    obtain ⟨β, hβ⟩ : ∃ β, (id32 S == id32 root) = β := ⟨_, rfl⟩
    have hq := fun W => eql_id S root W
    rw [hβ] at hq ⊢
    have hki : (k : Int) ≤ 100 := by omega
    have hk0 : (0 : Int) ≤ (k : Int) := by omega
    have HK := Lib.hid hk
    have hwk : IntKind.i64.wrap (k : Int) = (k : Int) := by rw [IntKind.wrap_i64]; omega
    have hkk : (k : Int) < (k : Int) + 1 := by omega
    clear hV hb0 k0 hT he hne hle ha hn hr h70 hlen hR hlast hll htl hts htop hk hkb hS hβ
    have HQ := Lib.hid hq
    clear hq
    go_enter Tryd.func29, Tryd.ntmps29
    go_upto_region 4 with (go_at_call 53; refine HTX.out.mono ?_; rintro e W1 ⟨v', rfl, ⟨A7, c7, rfl, hc7, hrp⟩, hb1⟩; have HRP := Lib.hid hrp; have HB1 := Lib.hid (HB0.out.trans (hb1.mono HB0.out.size)); have K1 := Lib.hid (K0.out.below hb1 K0.out.lt); clear hb1 HTX hrp hc7)
    rw [HK.out]
    obtain ⟨ad, u, rfl, hok, hcu, hru⟩ := HRP.out k (by rw [HK.out]; omega)
    rw [HLK.out] at hru
    obtain ⟨Au, cu, rfl, hcl, _⟩ := id hru
    have HS4 : Hid (∀ W', Below W1.heap.size W1 W' → W'.cell? (ad.add k) = some (.slice Au top.length cu) ∧ Blk W' w.heap.size 23 (arr 32 fun i => bv (root i))) := Lib.hid fun W' hb => ⟨(hb.cell (p := ad.add k) (by rw [block_add]; exact hok.2)).trans hcu, K1.out.below hb K1.out.lt⟩
    have HSU : Hid (∀ W', Below W1.heap.size W1 W' → Calls Tryd.prog 25 #[.int .i64 c, .slice Au top.length cu] W' fun e w' => e = .returned (.agg (arr 32 fun i => bv (S i))) ∧ Below W'.heap.size W' w') := Lib.hid fun W' hb => HSX.out Au top.length cu W' (HB1.out.trans (hb.mono HB1.out.size)) ((hru.kept fun a x ha h => (hb.cell (p := a) ha.2).trans h).mono fun b hb' => Nat.lt_of_lt_of_le hb'.2 hb.size)
    have hbX : Below W1.heap.size W1 W1.drew := (Below.refl _ _).drew
    have hq := HQ.out
    obtain ⟨u, hu⟩ : ∃ u, Value.slice Au top.length cu = u := ⟨_, rfl⟩
    rw [hu] at HS4 HSU
    clear hru hcu hok hu hcl HRP
    refine wp_region_held_drew (S := fun W' => W'.cell? (ad.add k) = some u ∧ Blk W' w.heap.size 23 (arr 32 fun i => bv (root i))) (by kernel_rfl) ?_ (fun hHeld => ?_)
    · exact HS4.out _ hbX
    refine wpAnyH_take (i := 0) (oi := ⟨some 31, _, _, _, _, _⟩) (v := ?_) rfl (by kernel_rfl) (by kernel_rfl) (by kernel_rfl) (fun _ _ _ h => h) (Or.inl ⟨by rfl, ?_⟩) (by assumption) ?_
    rotate_left
    · intro w hSw; (try dsimp only at hSw); go_simp; try (with_reducible rfl)
    rotate_left 0
    try simp only [Act.put, List.setIfInBounds_toArray, List.set_cons_zero, List.set_cons_succ]
    refine wpAnyH_take (i := 1) (oi := ⟨some 32, _, _, _, _, _⟩) (v := ?_) rfl (by kernel_rfl) (by kernel_rfl) (by kernel_rfl) (fun _ _ _ h => h) (Or.inl ⟨by rfl, ?_⟩) (by assumption) ?_
    rotate_left
    · intro w hSw; (try dsimp only at hSw); go_simp; try (with_reducible rfl)
    rotate_left 0
    try simp only [Act.put, List.setIfInBounds_toArray, List.set_cons_zero, List.set_cons_succ]
    refine wpAnyH_take (i := 2) (oi := ⟨some 33, _, _, _, _, _⟩) (v := ?_) rfl (by kernel_rfl) (by kernel_rfl) (by kernel_rfl) (fun _ _ _ h => h) (Or.inl ⟨by rfl, ?_⟩) (by assumption) ?_
    rotate_left
    · intro w hSw; (try dsimp only at hSw); go_simp; try (with_reducible rfl)
    rotate_left 0
    try simp only [Act.put, List.setIfInBounds_toArray, List.set_cons_zero, List.set_cons_succ]
    refine wpAnyH_take (i := 3) (oi := ⟨some 34, _, _, _, _, _⟩) (v := ?_) rfl (by kernel_rfl) (by kernel_rfl) (by kernel_rfl) (fun _ _ _ h => h) (Or.inl ⟨by rfl, ?_⟩) (by assumption) ?_
    rotate_left
    · intro w hSw; (try dsimp only at hSw); go_simp; try (with_reducible rfl)
    rotate_left 0
    try simp only [Act.put, List.setIfInBounds_toArray, List.set_cons_zero, List.set_cons_succ]
    refine wpAnyH_take (i := 4) (oi := ⟨some 35, _, _, _, _, _⟩) (v := ?_) rfl (by kernel_rfl) (by kernel_rfl) (by kernel_rfl) (fun _ _ _ h => h) (Or.inl ⟨by rfl, ?_⟩) (by assumption) ?_
    rotate_left
    · intro w hSw; (try dsimp only at hSw); go_simp; try (with_reducible rfl)
    rotate_left 0
    try simp only [Act.put, List.setIfInBounds_toArray, List.set_cons_zero, List.set_cons_succ]
    refine wpAnyH_take (i := 5) (oi := ⟨some 36, _, _, _, _, _⟩) (v := ?_) rfl (by kernel_rfl) (by kernel_rfl) (by kernel_rfl) (fun _ _ _ h => h) (Or.inl ⟨by rfl, ?_⟩) (by assumption) ?_
    rotate_left
    · intro w hSw; (try dsimp only at hSw); go_simp; try (with_reducible rfl)
    rotate_left 0
    try simp only [Act.put, List.setIfInBounds_toArray, List.set_cons_zero, List.set_cons_succ]
    refine wpAnyH_take (i := 6) (oi := ⟨some 37, _, _, _, _, _⟩) (v := ?_) rfl (by kernel_rfl) (by kernel_rfl) (by kernel_rfl) (fun _ _ _ h => h) (Or.inl ⟨by rfl, ?_⟩) (by assumption) ?_
    rotate_left
    · intro w hSw; (try dsimp only at hSw); go_simp; try (with_reducible rfl)
    rotate_left 0
    try simp only [Act.put, List.setIfInBounds_toArray, List.set_cons_zero, List.set_cons_succ]
    refine wpAnyH_take (i := 7) (oi := ⟨some 38, _, _, _, _, _⟩) (v := ?_) rfl (by kernel_rfl) (by kernel_rfl) (by kernel_rfl) (fun _ _ _ h => h) (Or.inl ⟨by rfl, ?_⟩) (by assumption) ?_
    rotate_left
    · intro w hSw; (try dsimp only at hSw); go_simp; try (with_reducible rfl)
    rotate_left 0
    try simp only [Act.put, List.setIfInBounds_toArray, List.set_cons_zero, List.set_cons_succ]
    refine wpAnyH_take (i := 8) (oi := ⟨some 39, _, _, _, _, _⟩) (v := ?_) rfl (by kernel_rfl) (by kernel_rfl) (by kernel_rfl) (fun _ _ _ h => h) (Or.inl ⟨by rfl, ?_⟩) (by assumption) ?_
    rotate_left
    · intro w hSw; (try dsimp only at hSw); go_simp; try (with_reducible rfl)
    rotate_left 0
    try simp only [Act.put, List.setIfInBounds_toArray, List.set_cons_zero, List.set_cons_succ]
    refine wpAnyH_take (i := 9) (oi := ⟨some 40, _, _, _, _, _⟩) (v := ?_) rfl (by kernel_rfl) (by kernel_rfl) (by kernel_rfl) (fun _ _ _ h => h) (Or.inl ⟨by rfl, ?_⟩) (by assumption) ?_
    rotate_left
    · intro w hSw; (try dsimp only at hSw); go_simp; try (with_reducible rfl)
    rotate_left 0
    try simp only [Act.put, List.setIfInBounds_toArray, List.set_cons_zero, List.set_cons_succ]
    refine wpAnyH_take (i := 10) (oi := ⟨some 41, _, _, _, _, _⟩) (v := u) rfl (by kernel_rfl) (by kernel_rfl) (by kernel_rfl) (fun _ _ _ h => h) (yieldsIf_load_one' (by rfl) 50 _ rfl (ad.add k) rfl _ _ (fun _ hS => hS.1) Tryd.underlying50 rfl) (by assumption) ?_
    try simp only [Act.put, List.setIfInBounds_toArray, List.set_cons_zero, List.set_cons_succ]
    refine wpAnyH_take (i := 12) (oi := ⟨some 43, _, _, _, _, _⟩) (v := (.agg (arr 32 fun i => bv (root i)))) rfl (by kernel_rfl) (by kernel_rfl) (by kernel_rfl) (fun _ _ _ h => h) (yieldsIf_load_at (by rfl) 23 _ rfl ⟨w.heap.size, 0, none⟩ rfl 32 (fun i => bv (root i)) 5 (fun _ hS i hi => by rw [add_zero_block, hS.2.cell, arr_get, if_pos hi]) Tryd.underlying23 (by kernel_rfl)) (by assumption) ?_
    try simp only [Act.put, List.setIfInBounds_toArray, List.set_cons_zero, List.set_cons_succ]
    refine wpAnyH_ready (rs := [11]) (by kernel_rfl) (by simp) ?_
    refine (AllReadyH.cons (o := ⟨some 42, _, _, _, _, _⟩) rfl (fun K hK => ?_) AllReadyH.nil)
    (try rw [if_pos (by rfl)])
    go_simp
    refine (HSU.out _ hbX).mono ?_
    rintro e W9 ⟨rfl, hb9⟩
    replace hbX := hbX.trans (hb9.mono hbX.size)
    clear hb9
    try dsimp only
    refine hK.out _ _ (HS4.out _ hbX) (fun hHeld => ?_)
    clear hK K
    try simp only [Act.put, List.setIfInBounds_toArray, List.set_cons_zero, List.set_cons_succ]
    refine wpAnyH_take (i := 13) (oi := ⟨some 44, _, _, _, _, _⟩) (v := ?_) rfl (by kernel_rfl) (by kernel_rfl) (by kernel_rfl) (fun _ _ _ h => h) (Or.inl ⟨by rfl, ?_⟩) (by assumption) ?_
    rotate_left
    · intro w hSw; (try dsimp only at hSw); go_simp; try (with_reducible rfl)
    rotate_left 0
    try simp only [Act.put, List.setIfInBounds_toArray, List.set_cons_zero, List.set_cons_succ]
    refine wpAnyH_take (i := 14) (oi := ⟨some 45, _, _, _, _, _⟩) (v := ?_) rfl (by kernel_rfl) (by kernel_rfl) (by kernel_rfl) (fun _ _ _ h => h) (Or.inl ⟨by rfl, ?_⟩) (by assumption) ?_
    rotate_left
    · intro w hSw; (try dsimp only at hSw); go_simp; try (with_reducible rfl)
    rotate_left 0
    try simp only [Act.put, List.setIfInBounds_toArray, List.set_cons_zero, List.set_cons_succ]
    refine wpAnyH_take (i := 15) (oi := ⟨some 12, _, _, _, _, _⟩) (v := ?_) rfl (by kernel_rfl) (by kernel_rfl) (by kernel_rfl) (fun _ _ _ h => h) (Or.inl ⟨by rfl, ?_⟩) (by assumption) ?_
    rotate_left
    · intro w hSw; (try dsimp only at hSw); go_simp; try (with_reducible rfl)
    rotate_left 0
    try simp only [Act.put, List.setIfInBounds_toArray, List.set_cons_zero, List.set_cons_succ]
    refine wpAnyH_done (by kernel_rfl) ?_ _
    go_wp2_with fail
    go_ret
    exact ⟨rfl, HB1.out.trans (hbX.mono HB1.out.size)⟩
  · have hR : textsC c entry a n path = [] := by unfold textsC; rw [if_neg hlen]
    rw [hR] at HTX
    rw [decide_eq_false hlen, Bool.false_and]
    clear hV hb0 k0 hT he hne hle ha hn hr h70 hlen hR
    go_enter Tryd.func29, Tryd.ntmps29
    go_upto_region 4 with (go_at_call 53; refine HTX.out.mono ?_; rintro e W1 ⟨v', rfl, ⟨A7, c7, rfl, hc7, hrp⟩, hb1⟩; have HB1 := Lib.hid (HB0.out.trans (hb1.mono HB0.out.size)); clear hb1 HTX hrp hc7)
    have hbX : Below W1.heap.size W1 W1.drew := (Below.refl _ _).drew
    refine wp_region_held_drew (S := fun _ => True) (by kernel_rfl) ?_ (fun hHeld => ?_)
    · exact trivial
    refine wpAnyH_take (i := 0) (oi := ⟨some 31, _, _, _, _, _⟩) (v := ?_) rfl (by kernel_rfl) (by kernel_rfl) (by kernel_rfl) (fun _ _ _ h => h) (Or.inl ⟨by rfl, ?_⟩) (by assumption) ?_
    rotate_left
    · intro w hSw; (try dsimp only at hSw); go_simp; try (with_reducible rfl)
    rotate_left 0
    try simp only [Act.put, List.setIfInBounds_toArray, List.set_cons_zero, List.set_cons_succ]
    refine wpAnyH_take (i := 1) (oi := ⟨some 32, _, _, _, _, _⟩) (v := ?_) rfl (by kernel_rfl) (by kernel_rfl) (by kernel_rfl) (fun _ _ _ h => h) (Or.inl ⟨by rfl, ?_⟩) (by assumption) ?_
    rotate_left
    · intro w hSw; (try dsimp only at hSw); go_simp; try (with_reducible rfl)
    rotate_left 0
    try simp only [Act.put, List.setIfInBounds_toArray, List.set_cons_zero, List.set_cons_succ]
    refine wpAnyH_take (i := 2) (oi := ⟨some 33, _, _, _, _, _⟩) (v := ?_) rfl (by kernel_rfl) (by kernel_rfl) (by kernel_rfl) (fun _ _ _ h => h) (Or.inl ⟨by rfl, ?_⟩) (by assumption) ?_
    rotate_left
    · intro w hSw; (try dsimp only at hSw); go_simp; try (with_reducible rfl)
    rotate_left 0
    try simp only [Act.put, List.setIfInBounds_toArray, List.set_cons_zero, List.set_cons_succ]
    refine wpAnyH_take (i := 3) (oi := ⟨some 34, _, _, _, _, _⟩) (v := ?_) rfl (by kernel_rfl) (by kernel_rfl) (by kernel_rfl) (fun _ _ _ h => h) (Or.inl ⟨by rfl, ?_⟩) (by assumption) ?_
    rotate_left
    · intro w hSw; (try dsimp only at hSw); go_simp; try (with_reducible rfl)
    rotate_left 0
    try simp only [Act.put, List.setIfInBounds_toArray, List.set_cons_zero, List.set_cons_succ]
    refine wpAnyH_take (i := 4) (oi := ⟨some 35, _, _, _, _, _⟩) (v := undef) rfl (by kernel_rfl) (by kernel_rfl) (by kernel_rfl) (fun _ _ _ h => h) (Or.inr ⟨by rfl, rfl⟩) (by assumption) ?_
    try simp only [Act.put, List.setIfInBounds_toArray, List.set_cons_zero, List.set_cons_succ]
    refine wpAnyH_take (i := 5) (oi := ⟨some 36, _, _, _, _, _⟩) (v := undef) rfl (by kernel_rfl) (by kernel_rfl) (by kernel_rfl) (fun _ _ _ h => h) (Or.inr ⟨by rfl, rfl⟩) (by assumption) ?_
    try simp only [Act.put, List.setIfInBounds_toArray, List.set_cons_zero, List.set_cons_succ]
    refine wpAnyH_take (i := 6) (oi := ⟨some 37, _, _, _, _, _⟩) (v := undef) rfl (by kernel_rfl) (by kernel_rfl) (by kernel_rfl) (fun _ _ _ h => h) (Or.inr ⟨by rfl, rfl⟩) (by assumption) ?_
    try simp only [Act.put, List.setIfInBounds_toArray, List.set_cons_zero, List.set_cons_succ]
    refine wpAnyH_take (i := 7) (oi := ⟨some 38, _, _, _, _, _⟩) (v := undef) rfl (by kernel_rfl) (by kernel_rfl) (by kernel_rfl) (fun _ _ _ h => h) (Or.inr ⟨by rfl, rfl⟩) (by assumption) ?_
    try simp only [Act.put, List.setIfInBounds_toArray, List.set_cons_zero, List.set_cons_succ]
    refine wpAnyH_take (i := 8) (oi := ⟨some 39, _, _, _, _, _⟩) (v := undef) rfl (by kernel_rfl) (by kernel_rfl) (by kernel_rfl) (fun _ _ _ h => h) (Or.inr ⟨by rfl, rfl⟩) (by assumption) ?_
    try simp only [Act.put, List.setIfInBounds_toArray, List.set_cons_zero, List.set_cons_succ]
    refine wpAnyH_take (i := 9) (oi := ⟨some 40, _, _, _, _, _⟩) (v := undef) rfl (by kernel_rfl) (by kernel_rfl) (by kernel_rfl) (fun _ _ _ h => h) (Or.inr ⟨by rfl, rfl⟩) (by assumption) ?_
    try simp only [Act.put, List.setIfInBounds_toArray, List.set_cons_zero, List.set_cons_succ]
    refine wpAnyH_take (i := 10) (oi := ⟨some 41, _, _, _, _, _⟩) (v := undef) rfl (by kernel_rfl) (by kernel_rfl) (by kernel_rfl) (fun _ _ _ h => h) (Or.inr ⟨by rfl, rfl⟩) (by assumption) ?_
    try simp only [Act.put, List.setIfInBounds_toArray, List.set_cons_zero, List.set_cons_succ]
    refine wpAnyH_take (i := 11) (oi := ⟨some 42, _, _, _, _, _⟩) (v := undef) rfl (by kernel_rfl) (by kernel_rfl) (by kernel_rfl) (fun _ _ _ h => h) (Or.inr ⟨by rfl, rfl⟩) (by assumption) ?_
    try simp only [Act.put, List.setIfInBounds_toArray, List.set_cons_zero, List.set_cons_succ]
    refine wpAnyH_take (i := 12) (oi := ⟨some 43, _, _, _, _, _⟩) (v := undef) rfl (by kernel_rfl) (by kernel_rfl) (by kernel_rfl) (fun _ _ _ h => h) (Or.inr ⟨by rfl, rfl⟩) (by assumption) ?_
    try simp only [Act.put, List.setIfInBounds_toArray, List.set_cons_zero, List.set_cons_succ]
    refine wpAnyH_take (i := 13) (oi := ⟨some 44, _, _, _, _, _⟩) (v := undef) rfl (by kernel_rfl) (by kernel_rfl) (by kernel_rfl) (fun _ _ _ h => h) (Or.inr ⟨by rfl, rfl⟩) (by assumption) ?_
    try simp only [Act.put, List.setIfInBounds_toArray, List.set_cons_zero, List.set_cons_succ]
    refine wpAnyH_take (i := 14) (oi := ⟨some 45, _, _, _, _, _⟩) (v := ?_) rfl (by kernel_rfl) (by kernel_rfl) (by kernel_rfl) (fun _ _ _ h => h) (Or.inl ⟨by rfl, ?_⟩) (by assumption) ?_
    rotate_left
    · intro w hSw; (try dsimp only at hSw); go_simp; try (with_reducible rfl)
    rotate_left 0
    try simp only [Act.put, List.setIfInBounds_toArray, List.set_cons_zero, List.set_cons_succ]
    refine wpAnyH_take (i := 15) (oi := ⟨some 12, _, _, _, _, _⟩) (v := ?_) rfl (by kernel_rfl) (by kernel_rfl) (by kernel_rfl) (fun _ _ _ h => h) (Or.inl ⟨by rfl, ?_⟩) (by assumption) ?_
    rotate_left
    · intro w hSw; (try dsimp only at hSw); go_simp; try (with_reducible rfl)
    rotate_left 0
    try simp only [Act.put, List.setIfInBounds_toArray, List.set_cons_zero, List.set_cons_succ]
    refine wpAnyH_done (by kernel_rfl) ?_ _
    go_wp2_with fail
    go_ret
    exact ⟨rfl, HB1.out.trans (hbX.mono HB1.out.size)⟩
theorem leadsS_any (c : Int) (Ae : Option Addr) (ne ce : Nat) (entry : List UInt8) (a n : Int) (v : Value) (path : List D) (root : D) (w : World) (hT : Tables w) (he : RdB w (fun b => b < w.heap.size) (.slice Ae ne ce) entry) (hne : entry.length = ne) (hle : ne ≤ 1000000) (hr : RdI w (fun b => b < w.heap.size) v path) (h70 : path.length ≤ 100) :
    Calls Tryd.prog 29 #[.int .i64 c, .slice Ae ne ce, .int .i64 a, .int .i64 n, v, .agg (arr 32 fun i => bv (root i))] w fun e w' => e = .returned (.bool (leadsV c entry a n path root)) ∧ Below w.heap.size w w' := by
  by_cases h : a < 0 ∨ n ≤ a ∨ 1099511627776 < n
  · have e : leadsV c entry a n path root = false := by unfold leadsV; rw [if_pos h]
    rw [e]
    exact leadsS_range c Ae ne ce a n v root w h
  · obtain ⟨a', rfl⟩ := Int.eq_ofNat_of_zero_le (show 0 ≤ a by omega)
    obtain ⟨n', rfl⟩ := Int.eq_ofNat_of_zero_le (show 0 ≤ n by omega)
    exact leadsS_in c Ae ne ce entry a' n' v path root w hT he hne hle (by omega) (by omega) hr h70
end Go.Proofs.YtlnapnbccojohaaDoor
