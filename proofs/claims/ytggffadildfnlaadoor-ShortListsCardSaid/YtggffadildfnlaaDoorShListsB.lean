/-
  short's Lists where the two part; in whatever memory in which the tables lie. No condition.
  short's Lists in every case: of lists with one root, either they are alike, or two unlike texts with one sum are told; of others, where two are told, their lists have one root. No condition.
-/
import Derived.Test.YtggffadildfnlaaDoorShEntryN
import Derived.Test.YtggffadildfnlaaDoorShEq
import Derived.Test.YtggffadildfnlaaDoorShWay
namespace Go.Proofs.YtggffadildfnlaaDoor
open Go Go.RowKit Go.Shelf TreeM

theorem sh_slice {w : World} {B n k : Nat} {e : TypeId} {v : Value} {xs : List Value} (h : w.ownsRow B e k v n xs) : ∃ A cap, v = .slice A n cap := by
  obtain ⟨A, c, rfl, _⟩ := own_len h
  exact ⟨A, c, rfl⟩
theorem PairIs.one {c : Int} {w W : World} {x y : Value} {b lead : Bool} {own oth : List (List UInt8)} (h : PairIs c w W x y b lead own oth) : (#[x, y].all fun x => x.oneCell') = true := by
  rcases h with ⟨_, rfl, rfl, _⟩ | ⟨_, _, i, _, _, ⟨A1, c1, rfl, _⟩, ⟨A2, c2, rfl, _⟩⟩ <;> simp [Value.oneCell']
theorem PairIs.later {c : Int} {w W W5 W9 : World} {x y : Value} {b lead : Bool} {own oth : List (List UInt8)} (h : PairIs c W W5 x y b lead own oth) (hw : w.heap.size < W.heap.size) (hk : ∀ b, b ≠ w.heap.size → W9.heap[b]? = W5.heap[b]?) (hz : W9.heap.size = W5.heap.size) : PairIs c w W9 x y b lead own oth := by
  rcases h with h | ⟨h1, h2, i, hi, hbad, hx, hy⟩
  · exact Or.inl h
  · have hm : ∀ {v : Value} {t : List UInt8}, RdB W5 (fun b => W.heap.size ≤ b ∧ b < W5.heap.size) v t → RdB W9 (fun b => w.heap.size ≤ b ∧ b < W9.heap.size) v t := fun h => (h.kept fun a x ha h => (cell_other hk (by have := ha.1; omega)).trans h).mono fun b hb => ⟨by have := hb.1; omega, by have := hb.2; omega⟩
    exact Or.inr ⟨h1, h2, i, hi, hbad, hm hx, hm hy⟩
set_option maxRecDepth 100000 in
set_option maxHeartbeats 8000000 in
theorem lists_part (c : Int) (A B : Option Addr) (n cp cq : Nat) (ps qs : List (List UInt8)) (p : Nat) (w : World) (hT : Tables w) (hn : ps.length = n) (hnq : qs.length = n) (hm : n ≤ 1000000) (hc : n ≤ cp) (hcq : n ≤ cq) (hl : ∀ x ∈ ps, x.length ≤ 1000000) (hlq : ∀ x ∈ qs, x.length ≤ 1000000)
    (hp : RdP w (fun b => b < w.heap.size) A ps) (hq : RdP w (fun b => b < w.heap.size) B qs) (hpn : p < n) (hsame : ∀ j, j < p → ps.getD j [] = qs.getD j []) (hpart : ps.getD p [] ≠ qs.getD p []) :
    Calls Tryd.prog 31 #[.int .i64 c, .slice A n cp, .slice B n cq] w fun e w' => ∃ x y b, e = .returned (.tuple #[.agg #[x, y], .bool b]) ∧ PairIs c w w' x y b (leadsV c (qs.getD p []) (p : Int) (n : Int) (wayC c qs p) (rootC c ps)) (textsP c (stepsB p (n - 1)) (wayC c ps p) (0 :: ps.getD p [])) (textsP c (stepsB p (n - 1)) (wayC c qs p) (0 :: qs.getD p [])) ∧ Below w.heap.size w w' := by
  have hw20 := wayC_length c n qs p hnq hpn hm
  have HWL := Lib.hid hw20
  have HWN : Hid (∀ W, Below w.heap.size w W → Calls Tryd.prog 24 #[.int .i64 c, .slice B n cq, .int .i64 (p : Int)] W fun e w' => ∃ v', e = .returned (.tuple #[v', .int .i64 0]) ∧ w'.ownsRow W.heap.size 23 32 v' (wayC c qs p).length (idCells (wayC c qs p)) ∧ Below W.heap.size W w') := Lib.hid fun W hb => wayS_in c n qs p B cq W hnq hpn hm hcq hlq (hT.below hb) (hq.oldS hb)
  obtain ⟨adp, vp, eB, hokp, hcp, hrp⟩ := hq p (by omega)
  have hlp : (qs.getD p []).length ≤ 1000000 := by
    rw [List.getD_eq_getElem?_getD, List.getElem?_eq_getElem (by omega)]
    exact hlq _ (List.getElem_mem _)
  obtain ⟨Ap, cpp, rfl, _, _⟩ := id hrp
  have HEN : Hid (∀ W, Below w.heap.size w W → ∀ Av nv cv, RdI W (fun b => b < W.heap.size) (.slice Av nv cv) (wayC c qs p) → Calls Tryd.prog 34 #[.int .i64 c, .slice A n cp, .slice Ap (qs.getD p []).length cpp, .int .i64 (p : Int), .slice Av nv cv] W fun e w' => ∃ x y b, e = .returned (.tuple #[.agg #[x, y], .bool b]) ∧ PairIs c W w' x y b (leadsV c (qs.getD p []) (p : Int) (n : Int) (wayC c qs p) (rootC c ps)) (textsP c (stepsB p (n - 1)) (wayC c ps p) (0 :: ps.getD p [])) (textsP c (stepsB p (n - 1)) (wayC c qs p) (0 :: qs.getD p [])) ∧ Below W.heap.size W w') := Lib.hid fun W hb Av nv cv h => by
    obtain ⟨A9, c9, e9, _, _⟩ := id h
    injection e9 with e1 e2 e3
    exact entryS_all c A n cp ps Ap _ cpp (qs.getD p []) p Av nv cv (wayC c qs p) W (hT.below hb) hn hpn hm hc hl (hp.oldS hb) rfl hlp ((hrp.kept fun a x ha h => (hb.cell (p := a) ha).trans h).mono fun b hb' => Nat.lt_of_lt_of_le hb' hb.size) e2.symm (by omega) h
  have HP := Lib.hid hp
  have HQ := Lib.hid hq
  have HN := Lib.hid (And.intro hn hnq)
  have HSM := Lib.hid (And.intro hsame hpart)
  have HPC := Lib.hid (And.intro eB (And.intro hokp hcp))
  have hm0 : (n : Int) ≤ 1000000 := by omega
  have hnn : ((n : Int) != (n : Int)) = false := by simp
  generalize textsP c (stepsB p (n - 1)) (wayC c ps p) (0 :: ps.getD p []) = own at *
  generalize textsP c (stepsB p (n - 1)) (wayC c qs p) (0 :: qs.getD p []) = oth at *
  generalize leadsV c (qs.getD p []) (p : Int) (n : Int) (wayC c qs p) (rootC c ps) = lead at *
  generalize wayC c qs p = P at *
  clear hp hq hn hnq hsame hpart hT hl hlq hc hcq hw20 hokp hcp hrp hlp eB
  go_enter Tryd.func31, Tryd.ntmps31
  go_wp2_with fail
  generalize hW : World.alloc w _ = W
  have hb0 : Below w.heap.size w W := by rw [← hW]; exact (Below.refl _ _).alloc (Nat.le_refl _) _
  have k6 : Blk W w.heap.size 62 #[.slice none 0 0, .slice none 0 0] := by rw [← hW]; exact Blk.newAt _ _ rfl rfl
  have HB0 := Lib.hid hb0
  have K6 := Lib.hid k6
  clear hW hb0 k6
  go_loopw [8] (fun i wr => ∃ k : Nat, k ≤ p ∧ i = .int .i64 (k : Int) ∧ Below W.heap.size W wr) (fun i _ => n - (intOf i).toNat)
  case atStart => exact ⟨0, Nat.zero_le _, rfl, Below.refl _ _⟩
  case round =>
    obtain ⟨k, hk, rfl, hb⟩ := hrel
    have hlt : k < n := by omega
    have hkn : (k : Int) < (n : Int) := by omega
    have hk0 : (0 : Int) ≤ (k : Int) := by omega
    obtain ⟨ad1, v1, rfl, hok1, hc1, hr1⟩ := HP.out k (by rw [HN.out.1]; exact hlt)
    obtain ⟨ad2, v2, rfl, hok2, hc2, hr2⟩ := HQ.out k (by rw [HN.out.2]; exact hlt)
    obtain ⟨t1, ht1⟩ : ∃ t1, ps.getD k [] = t1 := ⟨_, rfl⟩
    obtain ⟨t2, ht2⟩ : ∃ t2, qs.getD k [] = t2 := ⟨_, rfl⟩
    rw [ht1] at hr1
    rw [ht2] at hr2
    obtain ⟨A1, c1, rfl, _, _⟩ := id hr1
    obtain ⟨A2, c2, rfl, _, _⟩ := id hr2
    have HV : Hid (k = p → A2 = Ap ∧ c2 = cpp ∧ t2.length = (qs.getD p []).length) := Lib.hid fun h => by
      subst h
      obtain ⟨e1, _, e3⟩ := HPC.out
      injection e1 with e1
      rw [← e1, hc2] at e3
      injection e3 with e3
      injection e3 with e3 e4 e5
      exact ⟨e3, e5, e4⟩
    obtain ⟨n1, hn1⟩ : ∃ n1, t1.length = n1 := ⟨_, rfl⟩
    obtain ⟨n2, hn2⟩ : ∃ n2, t2.length = n2 := ⟨_, rfl⟩
    rw [hn2] at HV
    rw [hn1] at hr1 hc1
    rw [hn2] at hr2 hc2
    have HEQ0 : Hid (∀ W', Below W.heap.size W W' → Calls Tryd.prog 55 #[.slice A1 n1 c1, .slice A2 n2 c2] W' fun e w' => e = .returned (.bool (t1 == t2)) ∧ w' = W') := Lib.hid fun W' hb' => by
      have hbx := HB0.out.trans (hb'.mono HB0.out.size)
      exact bytesEq_any A1 A2 n1 n2 c1 c2 t1 t2 W' ((hr1.kept fun a x ha h => (hbx.cell (p := a) ha).trans h).mono fun b hb' => Nat.lt_of_lt_of_le hb' hbx.size) ((hr2.kept fun a x ha h => (hbx.cell (p := a) ha).trans h).mono fun b hb' => Nat.lt_of_lt_of_le hb' hbx.size)
    have HS4 : Hid (∀ W', Below W.heap.size W W' → W'.cell? (ad1.add k) = some (.slice A1 n1 c1) ∧ W'.cell? (ad2.add k) = some (.slice A2 n2 c2)) := Lib.hid fun W' hb' => by
      have hbx := HB0.out.trans (hb'.mono HB0.out.size)
      exact ⟨(hbx.cell (p := ad1.add k) (by rw [block_add]; exact hok1)).trans hc1, (hbx.cell (p := ad2.add k) (by rw [block_add]; exact hok2)).trans hc2⟩
    have hbX := hb.drew
    have hm1 : (k : Int) ≤ 1000000 := by omega
    clear hr1 hr2 hc1 hc2 hn1 hn2 hb hok1 hok2
    by_cases hkp : k < p
    · have HEQ : Hid (∀ W', Below W.heap.size W W' → Calls Tryd.prog 55 #[.slice A1 n1 c1, .slice A2 n2 c2] W' fun e w' => e = .returned (.bool true) ∧ w' = W') := Lib.hid fun W' hb' => by
        have := HEQ0.out W' hb'
        rw [show (t1 == t2) = true by rw [beq_iff_eq, ← ht1, ← ht2]; exact HSM.out.1 k hkp] at this
        exact this
      clear HEQ0 ht1 ht2
      go_upto_region 4 with fail
      refine wp_region_held_drew (S := fun W' => W'.cell? (ad1.add k) = some (.slice A1 n1 c1) ∧ W'.cell? (ad2.add k) = some (.slice A2 n2 c2)) (by kernel_rfl) ?_ (fun hHeld => ?_)
      · exact HS4.out _ hbX
      refine wpAnyH_take (i := 0) (oi := ⟨some 17, _, _, _, _, _⟩) (v := ?_) rfl (by kernel_rfl) (by kernel_rfl) (by kernel_rfl) (fun _ _ _ h => h) (Or.inl ⟨by rfl, ?_⟩) (by assumption) ?_
      rotate_left
      · intro w hSw; (try dsimp only at hSw); go_simp; try (with_reducible rfl)
      rotate_left 0
      try simp only [Act.put, List.setIfInBounds_toArray, List.set_cons_zero, List.set_cons_succ]
      refine wpAnyH_take (i := 1) (oi := ⟨some 18, _, _, _, _, _⟩) (v := ?_) rfl (by kernel_rfl) (by kernel_rfl) (by kernel_rfl) (fun _ _ _ h => h) (Or.inl ⟨by rfl, ?_⟩) (by assumption) ?_
      rotate_left
      · intro w hSw; (try dsimp only at hSw); go_simp; try (with_reducible rfl)
      rotate_left 0
      try simp only [Act.put, List.setIfInBounds_toArray, List.set_cons_zero, List.set_cons_succ]
      refine wpAnyH_take (i := 2) (oi := ⟨some 19, _, _, _, _, _⟩) (v := ?_) rfl (by kernel_rfl) (by kernel_rfl) (by kernel_rfl) (fun _ _ _ h => h) (Or.inl ⟨by rfl, ?_⟩) (by assumption) ?_
      rotate_left
      · intro w hSw; (try dsimp only at hSw); go_simp; try (with_reducible rfl)
      rotate_left 0
      try simp only [Act.put, List.setIfInBounds_toArray, List.set_cons_zero, List.set_cons_succ]
      refine wpAnyH_take (i := 3) (oi := ⟨some 20, _, _, _, _, _⟩) (v := ?_) rfl (by kernel_rfl) (by kernel_rfl) (by kernel_rfl) (fun _ _ _ h => h) (Or.inl ⟨by rfl, ?_⟩) (by assumption) ?_
      rotate_left
      · intro w hSw; (try dsimp only at hSw); go_simp; try (with_reducible rfl)
      rotate_left 0
      try simp only [Act.put, List.setIfInBounds_toArray, List.set_cons_zero, List.set_cons_succ]
      refine wpAnyH_take (i := 4) (oi := ⟨some 21, _, _, _, _, _⟩) (v := ?_) rfl (by kernel_rfl) (by kernel_rfl) (by kernel_rfl) (fun _ _ _ h => h) (Or.inl ⟨by rfl, ?_⟩) (by assumption) ?_
      rotate_left
      · intro w hSw; (try dsimp only at hSw); go_simp; try (with_reducible rfl)
      rotate_left 0
      try simp only [Act.put, List.setIfInBounds_toArray, List.set_cons_zero, List.set_cons_succ]
      refine wpAnyH_take (i := 5) (oi := ⟨some 22, _, _, _, _, _⟩) (v := ?_) rfl (by kernel_rfl) (by kernel_rfl) (by kernel_rfl) (fun _ _ _ h => h) (Or.inl ⟨by rfl, ?_⟩) (by assumption) ?_
      rotate_left
      · intro w hSw; (try dsimp only at hSw); go_simp; try (with_reducible rfl)
      rotate_left 0
      try simp only [Act.put, List.setIfInBounds_toArray, List.set_cons_zero, List.set_cons_succ]
      refine wpAnyH_take (i := 6) (oi := ⟨some 23, _, _, _, _, _⟩) (v := ?_) rfl (by kernel_rfl) (by kernel_rfl) (by kernel_rfl) (fun _ _ _ h => h) (Or.inl ⟨by rfl, ?_⟩) (by assumption) ?_
      rotate_left
      · intro w hSw; (try dsimp only at hSw); go_simp; try (with_reducible rfl)
      rotate_left 0
      try simp only [Act.put, List.setIfInBounds_toArray, List.set_cons_zero, List.set_cons_succ]
      refine wpAnyH_take (i := 7) (oi := ⟨some 24, _, _, _, _, _⟩) (v := ?_) rfl (by kernel_rfl) (by kernel_rfl) (by kernel_rfl) (fun _ _ _ h => h) (Or.inl ⟨by rfl, ?_⟩) (by assumption) ?_
      rotate_left
      · intro w hSw; (try dsimp only at hSw); go_simp; try (with_reducible rfl)
      rotate_left 0
      try simp only [Act.put, List.setIfInBounds_toArray, List.set_cons_zero, List.set_cons_succ]
      refine wpAnyH_take (i := 8) (oi := ⟨some 25, _, _, _, _, _⟩) (v := (.slice A1 n1 c1)) rfl (by kernel_rfl) (by kernel_rfl) (by kernel_rfl) (fun _ _ _ h => h) (yieldsIf_load_one' (by rfl) 50 _ rfl (ad1.add k) rfl _ _ (fun _ hS => hS.1) Tryd.underlying50 rfl) (by assumption) ?_
      try simp only [Act.put, List.setIfInBounds_toArray, List.set_cons_zero, List.set_cons_succ]
      refine wpAnyH_take (i := 9) (oi := ⟨some 26, _, _, _, _, _⟩) (v := ?_) rfl (by kernel_rfl) (by kernel_rfl) (by kernel_rfl) (fun _ _ _ h => h) (Or.inl ⟨by rfl, ?_⟩) (by assumption) ?_
      rotate_left
      · intro w hSw; (try dsimp only at hSw); go_simp; try (with_reducible rfl)
      rotate_left 0
      try simp only [Act.put, List.setIfInBounds_toArray, List.set_cons_zero, List.set_cons_succ]
      refine wpAnyH_take (i := 10) (oi := ⟨some 27, _, _, _, _, _⟩) (v := ?_) rfl (by kernel_rfl) (by kernel_rfl) (by kernel_rfl) (fun _ _ _ h => h) (Or.inl ⟨by rfl, ?_⟩) (by assumption) ?_
      rotate_left
      · intro w hSw; (try dsimp only at hSw); go_simp; try (with_reducible rfl)
      rotate_left 0
      try simp only [Act.put, List.setIfInBounds_toArray, List.set_cons_zero, List.set_cons_succ]
      refine wpAnyH_take (i := 11) (oi := ⟨some 28, _, _, _, _, _⟩) (v := ?_) rfl (by kernel_rfl) (by kernel_rfl) (by kernel_rfl) (fun _ _ _ h => h) (Or.inl ⟨by rfl, ?_⟩) (by assumption) ?_
      rotate_left
      · intro w hSw; (try dsimp only at hSw); go_simp; try (with_reducible rfl)
      rotate_left 0
      try simp only [Act.put, List.setIfInBounds_toArray, List.set_cons_zero, List.set_cons_succ]
      refine wpAnyH_take (i := 12) (oi := ⟨some 29, _, _, _, _, _⟩) (v := (.slice A2 n2 c2)) rfl (by kernel_rfl) (by kernel_rfl) (by kernel_rfl) (fun _ _ _ h => h) (yieldsIf_load_one' (by rfl) 50 _ rfl (ad2.add k) rfl _ _ (fun _ hS => hS.2) Tryd.underlying50 rfl) (by assumption) ?_
      try simp only [Act.put, List.setIfInBounds_toArray, List.set_cons_zero, List.set_cons_succ]
      refine wpAnyH_ready (rs := [13]) (by kernel_rfl) (by simp) ?_
      refine (AllReadyH.cons (o := ⟨some 30, _, _, _, _, _⟩) rfl (fun K hK => ?_) AllReadyH.nil)
      (try rw [if_pos (by rfl)])
      go_simp
      refine (HEQ.out _ hbX).mono ?_
      rintro e W9 ⟨rfl, h9⟩
      obtain rfl := h9.symm
      try dsimp only
      refine hK.out _ _ (HS4.out _ hbX) (fun hHeld => ?_)
      clear hK K
      try simp only [Act.put, List.setIfInBounds_toArray, List.set_cons_zero, List.set_cons_succ]
      refine wpAnyH_take (i := 14) (oi := ⟨some 31, _, _, _, _, _⟩) (v := ?_) rfl (by kernel_rfl) (by kernel_rfl) (by kernel_rfl) (fun _ _ _ h => h) (Or.inl ⟨by rfl, ?_⟩) (by assumption) ?_
      rotate_left
      · intro w hSw; (try dsimp only at hSw); go_simp; try (with_reducible rfl)
      rotate_left 0
      try simp only [Act.put, List.setIfInBounds_toArray, List.set_cons_zero, List.set_cons_succ]
      refine wpAnyH_done (by kernel_rfl) ?_ _
      go_wp2_with fail
      go_roundw
      case rel => exact ⟨k + 1, by omega, by go_num, hbX⟩
      case measure => simp [intOf]; omega
    · obtain rfl : k = p := by omega
      have HEQ : Hid (∀ W', Below W.heap.size W W' → Calls Tryd.prog 55 #[.slice A1 n1 c1, .slice A2 n2 c2] W' fun e w' => e = .returned (.bool false) ∧ w' = W') := Lib.hid fun W' hb' => by
        have := HEQ0.out W' hb'
        rw [show (t1 == t2) = false by rw [beq_eq_false_iff_ne, ← ht1, ← ht2]; exact HSM.out.2] at this
        exact this
      obtain ⟨e1, e2, e3⟩ := HV.out rfl
      rw [← e1, ← e2, ← e3] at HEN
      clear HEQ0 ht1 ht2 e1 e2 e3
      go_upto_region 4 with fail
      refine wp_region_held_drew (S := fun W' => W'.cell? (ad1.add k) = some (.slice A1 n1 c1) ∧ W'.cell? (ad2.add k) = some (.slice A2 n2 c2)) (by kernel_rfl) ?_ (fun hHeld => ?_)
      · exact HS4.out _ hbX
      refine wpAnyH_take (i := 0) (oi := ⟨some 17, _, _, _, _, _⟩) (v := ?_) rfl (by kernel_rfl) (by kernel_rfl) (by kernel_rfl) (fun _ _ _ h => h) (Or.inl ⟨by rfl, ?_⟩) (by assumption) ?_
      rotate_left
      · intro w hSw; (try dsimp only at hSw); go_simp; try (with_reducible rfl)
      rotate_left 0
      try simp only [Act.put, List.setIfInBounds_toArray, List.set_cons_zero, List.set_cons_succ]
      refine wpAnyH_take (i := 1) (oi := ⟨some 18, _, _, _, _, _⟩) (v := ?_) rfl (by kernel_rfl) (by kernel_rfl) (by kernel_rfl) (fun _ _ _ h => h) (Or.inl ⟨by rfl, ?_⟩) (by assumption) ?_
      rotate_left
      · intro w hSw; (try dsimp only at hSw); go_simp; try (with_reducible rfl)
      rotate_left 0
      try simp only [Act.put, List.setIfInBounds_toArray, List.set_cons_zero, List.set_cons_succ]
      refine wpAnyH_take (i := 2) (oi := ⟨some 19, _, _, _, _, _⟩) (v := ?_) rfl (by kernel_rfl) (by kernel_rfl) (by kernel_rfl) (fun _ _ _ h => h) (Or.inl ⟨by rfl, ?_⟩) (by assumption) ?_
      rotate_left
      · intro w hSw; (try dsimp only at hSw); go_simp; try (with_reducible rfl)
      rotate_left 0
      try simp only [Act.put, List.setIfInBounds_toArray, List.set_cons_zero, List.set_cons_succ]
      refine wpAnyH_take (i := 3) (oi := ⟨some 20, _, _, _, _, _⟩) (v := ?_) rfl (by kernel_rfl) (by kernel_rfl) (by kernel_rfl) (fun _ _ _ h => h) (Or.inl ⟨by rfl, ?_⟩) (by assumption) ?_
      rotate_left
      · intro w hSw; (try dsimp only at hSw); go_simp; try (with_reducible rfl)
      rotate_left 0
      try simp only [Act.put, List.setIfInBounds_toArray, List.set_cons_zero, List.set_cons_succ]
      refine wpAnyH_take (i := 4) (oi := ⟨some 21, _, _, _, _, _⟩) (v := ?_) rfl (by kernel_rfl) (by kernel_rfl) (by kernel_rfl) (fun _ _ _ h => h) (Or.inl ⟨by rfl, ?_⟩) (by assumption) ?_
      rotate_left
      · intro w hSw; (try dsimp only at hSw); go_simp; try (with_reducible rfl)
      rotate_left 0
      try simp only [Act.put, List.setIfInBounds_toArray, List.set_cons_zero, List.set_cons_succ]
      refine wpAnyH_take (i := 5) (oi := ⟨some 22, _, _, _, _, _⟩) (v := ?_) rfl (by kernel_rfl) (by kernel_rfl) (by kernel_rfl) (fun _ _ _ h => h) (Or.inl ⟨by rfl, ?_⟩) (by assumption) ?_
      rotate_left
      · intro w hSw; (try dsimp only at hSw); go_simp; try (with_reducible rfl)
      rotate_left 0
      try simp only [Act.put, List.setIfInBounds_toArray, List.set_cons_zero, List.set_cons_succ]
      refine wpAnyH_take (i := 6) (oi := ⟨some 23, _, _, _, _, _⟩) (v := ?_) rfl (by kernel_rfl) (by kernel_rfl) (by kernel_rfl) (fun _ _ _ h => h) (Or.inl ⟨by rfl, ?_⟩) (by assumption) ?_
      rotate_left
      · intro w hSw; (try dsimp only at hSw); go_simp; try (with_reducible rfl)
      rotate_left 0
      try simp only [Act.put, List.setIfInBounds_toArray, List.set_cons_zero, List.set_cons_succ]
      refine wpAnyH_take (i := 7) (oi := ⟨some 24, _, _, _, _, _⟩) (v := ?_) rfl (by kernel_rfl) (by kernel_rfl) (by kernel_rfl) (fun _ _ _ h => h) (Or.inl ⟨by rfl, ?_⟩) (by assumption) ?_
      rotate_left
      · intro w hSw; (try dsimp only at hSw); go_simp; try (with_reducible rfl)
      rotate_left 0
      try simp only [Act.put, List.setIfInBounds_toArray, List.set_cons_zero, List.set_cons_succ]
      refine wpAnyH_take (i := 8) (oi := ⟨some 25, _, _, _, _, _⟩) (v := (.slice A1 n1 c1)) rfl (by kernel_rfl) (by kernel_rfl) (by kernel_rfl) (fun _ _ _ h => h) (yieldsIf_load_one' (by rfl) 50 _ rfl (ad1.add k) rfl _ _ (fun _ hS => hS.1) Tryd.underlying50 rfl) (by assumption) ?_
      try simp only [Act.put, List.setIfInBounds_toArray, List.set_cons_zero, List.set_cons_succ]
      refine wpAnyH_take (i := 9) (oi := ⟨some 26, _, _, _, _, _⟩) (v := ?_) rfl (by kernel_rfl) (by kernel_rfl) (by kernel_rfl) (fun _ _ _ h => h) (Or.inl ⟨by rfl, ?_⟩) (by assumption) ?_
      rotate_left
      · intro w hSw; (try dsimp only at hSw); go_simp; try (with_reducible rfl)
      rotate_left 0
      try simp only [Act.put, List.setIfInBounds_toArray, List.set_cons_zero, List.set_cons_succ]
      refine wpAnyH_take (i := 10) (oi := ⟨some 27, _, _, _, _, _⟩) (v := ?_) rfl (by kernel_rfl) (by kernel_rfl) (by kernel_rfl) (fun _ _ _ h => h) (Or.inl ⟨by rfl, ?_⟩) (by assumption) ?_
      rotate_left
      · intro w hSw; (try dsimp only at hSw); go_simp; try (with_reducible rfl)
      rotate_left 0
      try simp only [Act.put, List.setIfInBounds_toArray, List.set_cons_zero, List.set_cons_succ]
      refine wpAnyH_take (i := 11) (oi := ⟨some 28, _, _, _, _, _⟩) (v := ?_) rfl (by kernel_rfl) (by kernel_rfl) (by kernel_rfl) (fun _ _ _ h => h) (Or.inl ⟨by rfl, ?_⟩) (by assumption) ?_
      rotate_left
      · intro w hSw; (try dsimp only at hSw); go_simp; try (with_reducible rfl)
      rotate_left 0
      try simp only [Act.put, List.setIfInBounds_toArray, List.set_cons_zero, List.set_cons_succ]
      refine wpAnyH_take (i := 12) (oi := ⟨some 29, _, _, _, _, _⟩) (v := (.slice A2 n2 c2)) rfl (by kernel_rfl) (by kernel_rfl) (by kernel_rfl) (fun _ _ _ h => h) (yieldsIf_load_one' (by rfl) 50 _ rfl (ad2.add k) rfl _ _ (fun _ hS => hS.2) Tryd.underlying50 rfl) (by assumption) ?_
      try simp only [Act.put, List.setIfInBounds_toArray, List.set_cons_zero, List.set_cons_succ]
      refine wpAnyH_ready (rs := [13]) (by kernel_rfl) (by simp) ?_
      refine (AllReadyH.cons (o := ⟨some 30, _, _, _, _, _⟩) rfl (fun K hK => ?_) AllReadyH.nil)
      (try rw [if_pos (by rfl)])
      go_simp
      refine (HEQ.out _ hbX).mono ?_
      rintro e W9 ⟨rfl, h9⟩
      obtain rfl := h9.symm
      try dsimp only
      refine hK.out _ _ (HS4.out _ hbX) (fun hHeld => ?_)
      clear hK K
      try simp only [Act.put, List.setIfInBounds_toArray, List.set_cons_zero, List.set_cons_succ]
      refine wpAnyH_take (i := 14) (oi := ⟨some 31, _, _, _, _, _⟩) (v := ?_) rfl (by kernel_rfl) (by kernel_rfl) (by kernel_rfl) (fun _ _ _ h => h) (Or.inl ⟨by rfl, ?_⟩) (by assumption) ?_
      rotate_left
      · intro w hSw; (try dsimp only at hSw); go_simp; try (with_reducible rfl)
      rotate_left 0
      try simp only [Act.put, List.setIfInBounds_toArray, List.set_cons_zero, List.set_cons_succ]
      refine wpAnyH_done (by kernel_rfl) ?_ _
      have HBX := Lib.hid (HB0.out.trans (hbX.mono HB0.out.size))
      have K6x := Lib.hid (K6.out.below hbX K6.out.lt)
      have HBW := Lib.hid hbX
      clear hbX
      go_wp2_with (first
        | (go_at_call 24; refine (HWN.out _ HBX.out).mono ?_; rintro e W3 ⟨v3, rfl, ho3, hb3⟩; have HI3 := Lib.hid (sh_rd_own ho3 (by have := HWL.out; omega)); obtain ⟨Av, cv, rfl⟩ := sh_slice ho3; have HB3 := Lib.hid (HBX.out.trans (hb3.mono HBX.out.size)); have K3 := Lib.hid (K6x.out.below hb3 K6x.out.lt); have hcell := (HS4.out _ (HBW.out.trans (hb3.mono HBW.out.size))).2; clear hb3 ho3)
        | (go_at_call 34; refine (HEN.out _ HB3.out _ _ _ HI3.out).mono ?_; rintro e W5 ⟨x, y, b, rfl, hP, hb5⟩; have HP5 := Lib.hid hP; have k10 := K3.out.below hb5 K3.out.lt; have HB5 := Lib.hid (HB3.out.trans (hb5.mono HB3.out.size)); have HZ := Lib.hid K3.out.lt; clear hb5 hP)
        | (refine wpList_store_arrW rfl 62 _ _ rfl w.heap.size #[x, y] rfl rfl 62 _ k10 (by kernel_rfl) rfl HP5.out.one ?_; intro W9 hS9 hz9 hb9 hk9))
      refine bodyPost_ret (results_cell_tmp (p := 6) (q := 7) rfl _ _ w.heap.size 62 _ _ rfl hS9 Tryd.underlying62 rfl (by kernel_rfl)) rfl ?_
      exact ⟨x, y, b, rfl, HP5.out.later HZ.out hk9 hz9, HB5.out.trans hb9⟩
set_option maxRecDepth 100000 in
set_option maxHeartbeats 8000000 in
theorem lists_len (c : Int) (A B : Option Addr) (n m cp cq : Nat) (w : World) (h : n ≠ m) :
    Calls Tryd.prog 31 #[.int .i64 c, .slice A n cp, .slice B m cq] w fun e w' => e = .returned (.tuple #[noPair, .bool false]) ∧ Below w.heap.size w w' := by
  have hnn : ((n : Int) != (m : Int)) = true := by simp; omega
  go_enter Tryd.func31, Tryd.ntmps31
  go_wp2_with fail
  generalize hW : World.alloc w _ = W
  have hb0 : Below w.heap.size w W := by rw [← hW]; exact (Below.refl _ _).alloc (Nat.le_refl _) _
  have k6 : Blk W w.heap.size 62 #[.slice none 0 0, .slice none 0 0] := by rw [← hW]; exact Blk.newAt _ _ rfl rfl
  clear hW
  refine bodyPost_ret (results_cell_tmp (p := 6) (q := 7) rfl _ _ w.heap.size 62 _ _ rfl k6 Tryd.underlying62 rfl (by kernel_rfl)) rfl ?_
  exact ⟨rfl, hb0⟩
end Go.Proofs.YtggffadildfnlaaDoor
namespace Go.Proofs.YtggffadildfnlaaDoor
open Go Go.RowKit Go.Shelf TreeM

theorem rows_first (l m : List (List UInt8)) (h : l.length = m.length) (hne : l ≠ m) : ∃ p, p < l.length ∧ (∀ j, j < p → l.getD j [] = m.getD j []) ∧ l.getD p [] ≠ m.getD p [] := by
  induction l generalizing m with
  | nil =>
    cases m with
    | nil => exact absurd rfl hne
    | cons y m => simp at h
  | cons x l ih =>
    cases m with
    | nil => simp at h
    | cons y m =>
      by_cases hxy : x = y
      · subst hxy
        obtain ⟨p, hp, h1, h2⟩ := ih m (by simpa using h) (fun e => hne (by rw [e]))
        refine ⟨p + 1, by simp; omega, fun j hj => ?_, by simpa using h2⟩
        cases j with
        | zero => simp
        | succ j => simpa using h1 j (by omega)
      · exact ⟨0, by simp, fun j hj => by omega, by simpa using hxy⟩
theorem leadsV_top (c : Int) (n p : Nat) (path : List D) (root : D) (hp : p < n) (hm : n ≤ 1000000) (entry : List UInt8) : leadsV c entry (p : Int) (n : Int) path root = (decide (path.length = (stepsB p (n - 1)).length) && (id32 (cutD c (sha (topP c (stepsB p (n - 1)) path (0 :: entry)))) == id32 root)) := by
  unfold leadsV
  rw [if_neg (by omega), Int.toNat_natCast, Int.toNat_natCast]
theorem leadsV_way (c : Int) (qs : List (List UInt8)) (n p : Nat) (root : D) (hq : qs.length = n) (hp : p < n) (hm : n ≤ 1000000) : leadsV c (qs.getD p []) (p : Int) (n : Int) (wayC c qs p) root = (id32 (rootC c qs) == id32 root) := by
  have h := wayC_leads c n qs p hq hp
  rw [leadsV_top c n p _ root hp hm, decide_eq_true h.1, Bool.true_and, h.2]
  rfl
/-- What Lists answers with. -/
def ListsIs (c : Int) (w W : World) (x y : Value) (b : Bool) (fs gs : List (List UInt8)) : Prop :=
  (b = false ∧ x = .slice none 0 0 ∧ y = .slice none 0 0 ∧ (fs.length = gs.length → id32 (rootC c fs) = id32 (rootC c gs) → fs = gs)) ∨
  (b = true ∧ fs.length = gs.length ∧ id32 (rootC c fs) = id32 (rootC c gs) ∧ fs ≠ gs ∧ ∃ s t, Bad c s t ∧ s.length ≤ 1000001 ∧ t.length ≤ 1000001 ∧ RdB W (fun b => w.heap.size ≤ b ∧ b < W.heap.size) x s ∧ RdB W (fun b => w.heap.size ≤ b ∧ b < W.heap.size) y t)
theorem textsP_len (c : Int) : ∀ (bs : List Bool) (xs : List D) (t : List UInt8) (i : Nat), t.length ≤ 1000001 → ((textsP c bs xs t).getD i []).length ≤ 1000001 := by
  intro bs
  induction bs with
  | nil =>
    intro xs t i ht
    cases xs <;> (simp only [textsP]; cases i <;> simp [ht])
  | cons b bs ih =>
    intro xs t i ht
    cases xs with
    | nil =>
      simp only [textsP]
      cases i <;> simp [ht]
    | cons x xs =>
      simp only [textsP]
      cases i with
      | zero => simpa using ht
      | succ i =>
        simp only [List.getD_cons_succ]
        refine ih xs _ i ?_
        unfold side
        split <;> simp [id32]
theorem listsS_all (c : Int) (A B : Option Addr) (n m cp cq : Nat) (ps qs : List (List UInt8)) (w : World) (hT : Tables w) (hn : ps.length = n) (hnq : qs.length = m) (hm : n ≤ 20) (hmq : m ≤ 20) (hc : n ≤ cp) (hcq : m ≤ cq) (hl : ∀ x ∈ ps, x.length ≤ 1000000) (hlq : ∀ x ∈ qs, x.length ≤ 1000000)
    (hp : RdP w (fun b => b < w.heap.size) A ps) (hq : RdP w (fun b => b < w.heap.size) B qs) :
    Calls Tryd.prog 31 #[.int .i64 c, .slice A n cp, .slice B m cq] w fun e w' => ∃ x y b, e = .returned (.tuple #[.agg #[x, y], .bool b]) ∧ ListsIs c w w' x y b ps qs ∧ Below w.heap.size w w' := by
  by_cases hnm : n = m
  · subst hnm
    by_cases he : ps = qs
    · subst he
      refine (lists_same c A B n cp cq ps w hn (by omega) hp hq).mono ?_
      rintro e w' ⟨rfl, hb⟩
      exact ⟨_, _, _, rfl, Or.inl ⟨rfl, rfl, rfl, fun _ _ => rfl⟩, hb⟩
    · obtain ⟨p, hpl, hs, hd⟩ := rows_first ps qs (hn.trans hnq.symm) he
      rw [hn] at hpl
      refine (lists_part c A B n cp cq ps qs p w hT hn hnq (by omega) hc hcq hl hlq hp hq hpl hs hd).mono ?_
      rintro e w' ⟨x, y, b, rfl, hP, hb⟩
      refine ⟨x, y, b, rfl, ?_, hb⟩
      rw [leadsV_way c qs n p _ hnq hpl (by omega)] at hP
      have hlen : ∀ (ts : List (List UInt8)), (∀ x ∈ ts, x.length ≤ 1000000) → ((0 : UInt8) :: ts.getD p []).length ≤ 1000001 := fun ts hts => by
        rw [List.getD_eq_getElem?_getD]
        cases h : ts[p]? with
        | none => simp
        | some t =>
          have := hts t (List.mem_of_getElem? h)
          simp
          omega
      have hwp := wayC_leads c n ps p hn hpl
      have hwq := wayC_leads c n qs p hnq hpl
      rcases hP with ⟨hb0, hx, hy, hno⟩ | ⟨hb1, hlead, i, hi, hbad, hx, hy⟩
      · refine Or.inl ⟨hb0, hx, hy, fun _ hroot => ?_⟩
        have hno' := hno (by rw [beq_iff_eq]; exact hroot.symm)
        have := no_bad c (stepsB p (n - 1)) (wayC c ps p) (wayC c qs p) (0 :: ps.getD p []) (0 :: qs.getD p []) hwp.1.symm hwq.1.symm (by rw [hwp.2, hwq.2]; exact hroot) (fun i hi => by
          refine hno' i ?_
          rw [textsP_length c _ _ _ hwp.1.symm]
          exact hi)
        exact absurd (List.cons.inj this.1).2 hd
      · exact Or.inr ⟨hb1, hn.trans hnq.symm, by rw [beq_iff_eq] at hlead; exact hlead.symm, he, _, _, hbad, textsP_len c _ _ _ _ (hlen ps hl), textsP_len c _ _ _ _ (hlen qs hlq), hx, hy⟩
  · refine (lists_len c A B n m cp cq w hnm).mono ?_
    rintro e w' ⟨rfl, hb⟩
    exact ⟨_, _, _, rfl, Or.inl ⟨rfl, rfl, rfl, fun h => absurd (by omega) hnm⟩, hb⟩
end Go.Proofs.YtggffadildfnlaaDoor
