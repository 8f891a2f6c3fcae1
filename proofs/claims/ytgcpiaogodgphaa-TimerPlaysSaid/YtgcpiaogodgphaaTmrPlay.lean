/-
  TimerPlays: walked. No condition.
-/
import Derived.Test.YtgcpiaogodgphaaTmrPlayM
namespace Go.Proofs.Ytgcpiaogodgphaa
open Go Go.RowKit

/-- A row of the reference's, not in the timer's own block. -/
def RowT (W : World) (g : Nat) (v : Value) (D : List (List Int)) : Prop := RdK 3 W W.heap.size v D ∧ ∀ A m q, v = .slice (some A) m q → A.block ≠ g
theorem RowT.below {W W' : World} {g : Nat} {v : Value} {D : List (List Int)} (h : RowT W g v D) (hb : Below W.heap.size W W') : RowT W' g v D := ⟨(h.1.old hb).mono hb.size, h.2⟩
theorem RowT.turned {W W' : World} {g : Nat} {v : Value} {D : List (List Int)} (h : RowT W g v D) (hg : W.grownBy W' (some g)) : RowT W' g v D := by
  refine ⟨?_, h.2⟩
  obtain ⟨⟨h0, A, c, h1, h2, h3, h4⟩, hn⟩ := h
  refine ⟨h0, A, c, h1, h2, h3, fun hl => ?_⟩
  obtain ⟨ad, q1, q2, q3⟩ := h4 hl
  refine ⟨ad, q1, Nat.lt_of_lt_of_le q2 hg.size, fun j x hj i hi => ?_⟩
  rw [← q3 j x hj i hi]
  refine World.cell?_of_block ?_
  rw [block_add]
  exact hg.block _ q2 (fun e => hn ad _ _ (by rw [h1, q1]) (Option.some.inj e))
set_option maxRecDepth 100000 in
set_option maxHeartbeats 4000000 in
theorem plays_early (A : Option Addr) (n c : Nat) (h : 300 < (n : Int)) (w : World) : Calls Try.prog 3 #[.slice A n c] w fun e w' => e = .returned (.bool true) ∧ Below w.heap.size w w' := by
  go_enter Try.func3, Try.ntmps3
  go_wp2_with (first
    | (go_at_call 7; refine (runs_any _).mono ?_; rintro e W1 ⟨rfl, hb1⟩; have HB1 := Lib.hid hb1; clear hb1))
  go_ret
  exact ⟨rfl, HB1.out⟩
set_option maxRecDepth 100000 in
set_option maxHeartbeats 8000000 in
theorem plays_high (A : Option Addr) (n c : Nat) (L : List (List Int)) (w : World) (hrd : RdK 3 w w.heap.size (.slice A n c) L) (hL : L.length = n) (hn : n ≤ 300) : Calls Try.prog 3 #[.slice A n c] w fun e w' => e = .returned (.bool true) ∧ Below w.heap.size w w' := by
  have h1 : ¬ 300 < (n : Int) := by omega
  have HRDN := Lib.hid hrd
  have HLN := Lib.hid hL
  have HL3 := Lib.hid hrd.1
  have hzt := timer_zero
  clear hrd hL
  go_enter Try.func3, Try.ntmps3
  go_upto_region 9 with (first
    | (go_at_call 7; refine (runs_any _).mono ?_; rintro e W1 ⟨rfl, hb1⟩; have HB1 := Lib.hid hb1; clear hb1))
  obtain ⟨g, hg⟩ : ∃ g, W1.heap.size = g := ⟨_, rfl⟩
  obtain ⟨W2, hW2⟩ : ∃ W2, W1.alloc (.cells (intN 122 fun _ => 0) 28) = W2 := ⟨_, rfl⟩
  have ht2 := timer_new W1
  have hb2 : Below w.heap.size w W2 := by rw [← hW2]; exact HB1.out.alloc HB1.out.size _
  rw [hW2, hg] at ht2
  rw [hW2, hg]
  have HT2 := Lib.hid ht2
  have HB2 := Lib.hid hb2
  have HGW : Hid (w.heap.size ≤ g) := Lib.hid (by rw [← hg]; exact HB1.out.size)
  clear ht2 hb2 hW2 hg
  go_loopw [4, 5, 22] (fun s4 s5 s22 wr => ∃ (j p : Nat) (l : List (List Int)), j ≤ n ∧ s22 = .int .i64 (j : Int) ∧ s5 = .int .i64 (p : Int) ∧ TimerAt wr g (p : Int) l ∧ OkL (p : Int) l ∧ RowT wr g s4 (l.map (dueOf (p : Int))) ∧ p ≤ j ∧ Below w.heap.size w wr) (fun _ _ s22 _ => n - (intOf s22).toNat)
  case atStart => exact ⟨0, 0, [], Nat.zero_le _, rfl, rfl, HT2.out, OkL.nil (by omega), ⟨RdK.nil _ _, fun A m q hv => by cases hv⟩, Nat.le_refl _, HB2.out⟩
  case round =>
    obtain ⟨j, p, l, hj, rfl, rfl, ht, hok, hrow, hpj, hb⟩ := hrel
    have HTM0 := Lib.hid ht
    have HOK := Lib.hid hok
    have HROW0 := Lib.hid hrow
    have HB := Lib.hid hb
    clear ht hok hrow hb
    by_cases hlt : j < n
    · have hji : (j : Int) < (n : Int) := by omega
      have hj0 : (0 : Int) ≤ (j : Int) := by omega
      obtain ⟨x, hx⟩ : ∃ x, L[j]? = some x := ⟨_, List.getElem?_eq_getElem (by rw [HLN.out]; exact hlt)⟩
      obtain ⟨K, r, s, rfl⟩ := three (HL3.out x (List.mem_of_getElem? hx))
      obtain ⟨ad, c', he, _, _, hcell⟩ := HRDN.out.here hx
      rw [HLN.out] at he
      obtain ⟨rfl, -, rfl⟩ := Value.slice.inj he
      have hld : (Instr.loadAt 31 (.pointer (some (ad.add (j * 3))))).run Try.prog wr = .ok (.agg (icA [K, r, s])) wr := run_load_ic wr 31 _ Try.underlying31 rfl _ [K, r, s] op_info fun i hi => hcell wr HB.out i (by simpa using hi)
      have HLD := Lib.hid hld
      clear hx he hcell hld
      by_cases hk0 : K = 0
      · subst hk0
        go_upto_region 11 with (first
          | (guard_target = wpList _ _ _ (Oper.mk _ (.load 31 _) _ _ _ _ :: _) _ _; refine wpList_load_runT (by rfl) 31 _ rfl (.pointer (some (ad.add (j * 3)))) (.agg #[.int .i64 0, .int .i64 r, .int .i64 s]) rfl (HLD.out) ?_))
        obtain ⟨wb, hwb⟩ : ∃ z, wr.alloc (.cells #[.int .i64 0, .int .i64 r, .int .i64 s] 31) = z := ⟨_, rfl⟩
        obtain ⟨bo, hbo⟩ : ∃ bo, wr.heap.size = bo := ⟨_, rfl⟩
        have hbb : Below wr.heap.size wr wb := by rw [← hwb]; exact (Below.refl _ _).alloc (Nat.le_refl _) _
        have HOB : Hid (Blk wb bo 31 #[.int .i64 0, .int .i64 r, .int .i64 s]) := Lib.hid (by rw [← hwb, ← hbo]; exact Blk.new _ _ _)
        have c0 : wb.cell? ⟨bo, 0, none⟩ = some (.int .i64 0) := by rw [HOB.out.cell]; rfl
        have c1 : wb.cell? ⟨bo, 1, none⟩ = some (.int .i64 r) := by rw [HOB.out.cell]; rfl
        have c2 : wb.cell? ⟨bo, 2, none⟩ = some (.int .i64 s) := by rw [HOB.out.cell]; rfl
        have HTMB := Lib.hid (HTM0.out.below hbb)
        have HBB := Lib.hid (HB.out.trans (hbb.mono HB.out.size))
        have HROWB := Lib.hid (HROW0.out.below hbb)
        have HGO : Hid (g < bo) := Lib.hid (by rw [← hbo]; exact HTM0.out.lt)
        have HGL : Hid (g < wb.heap.size) := Lib.hid HTMB.out.lt
        try simp only [hwb, hbo]
        clear hwb hbo hbb
        obtain ⟨b, LN, hset, hrset, hokn⟩ : ∃ (b : Bool) (LN : List (List Int)), (∀ W', TimerAt W' g (p : Int) l → Calls Try.prog 9 #[.pointer (some ⟨g, 0, none⟩), .int .i64 r, .int .i64 s] W' fun e w' => e = .returned (.bool b) ∧ TimerAt w' g (p : Int) LN ∧ W'.grownBy w' (some g)) ∧
            (∀ W', g < W'.heap.size → RowT W' g u4 (l.map (dueOf (p : Int))) → Calls Try.prog 8 #[u4, .int .i64 r, .int .i64 s] W' fun e w' => ∃ v', e = .returned (.tuple #[v', .bool b]) ∧ RowT w' g v' (LN.map (dueOf (p : Int))) ∧ Below W'.heap.size W' w') ∧ OkL (p : Int) LN := by
          by_cases hl : l.length = 40
          · refine ⟨false, l, fun W' h => (set_full h r s hl).mono ?_, fun W' hg h => (refset_full _ _ r s W' h.1 (by rw [List.length_map, hl])).mono ?_, HOK.out⟩
            · rintro e w' ⟨rfl, rfl⟩
              exact ⟨rfl, h, World.grownBy.refl w' _⟩
            · rintro e w' ⟨rfl, hb⟩
              exact ⟨_, rfl, ⟨(h.1.old hb).mono hb.size, h.2⟩, hb⟩
          · have hl2 : l.length < 40 := by have := HTM0.out.len40; omega
            refine ⟨true, l ++ [[r, s, (p : Int)]], fun W' h => set_any h r s hl2, fun W' hg h => (refset_more _ _ r s W' h.1 (by rw [List.length_map]; exact hl2)).mono ?_, HOK.out.more (by omega) _ _⟩
            rintro e w' ⟨v', rfl, hr', hbl, hb⟩
            exact ⟨v', rfl, ⟨by rw [due_more]; exact hr', fun A m q hv => by have := hbl A m q hv; omega⟩, hb⟩
        have HSET := Lib.hid hset
        have HRSET := Lib.hid hrset
        have HOKN := Lib.hid hokn
        clear hset hrset hokn
        obtain ⟨m4, hm4⟩ : ∃ m4, LN.length = m4 := ⟨_, rfl⟩
        have HLM := Lib.hid hm4
        clear hm4
        go_upto_region 14 with (first
          | (go_at_call 8; refine (HRSET.out _ HGL.out HROWB.out).mono ?_; rintro e W5 ⟨v5, rfl, hrow5, hb5⟩; obtain ⟨A4, c4, rfl⟩ : ∃ A4 c4, v5 = .slice A4 m4 c4 := (by obtain ⟨⟨_, A4, c4, h, _⟩, _⟩ := hrow5; exact ⟨A4, c4, (by rw [h, List.length_map, HLM.out])⟩); have HROW5 := Lib.hid hrow5; have HB5 := Lib.hid (HBB.out.trans (hb5.mono HBB.out.size)); have HTM5 := Lib.hid (HTMB.out.below hb5); have HOB5 := Lib.hid (HOB.out.below hb5 HOB.out.lt); clear hrow5 hb5))
        clear c0 c1 c2
        refine wp_region_held_drew (S := fun W' => Blk W' bo 31 #[.int .i64 0, .int .i64 r, .int .i64 s]) (by kernel_rfl) ?_ (fun hHeld => ?_)
        · exact HOB5.out.drew
        refine wpAnyH_take (i := 0) (oi := ⟨some 39, _, _, _, _, _⟩) (v := ?_) rfl (by kernel_rfl) (by kernel_rfl) (by kernel_rfl) (fun _ _ _ h => h) (Or.inl ⟨by rfl, ?_⟩) (by assumption) ?_
        rotate_left
        · intro w hSw; (try dsimp only at hSw); go_simp; try (with_reducible rfl)
        rotate_left 0
        try simp only [Act.put, List.setIfInBounds_toArray, List.set_cons_zero, List.set_cons_succ]
        refine wpAnyH_take (i := 1) (oi := ⟨some 40, _, _, _, _, _⟩) (v := (.int .i64 r)) rfl (by kernel_rfl) (by kernel_rfl) (by kernel_rfl) (fun _ _ _ h => h) (yields_cell (by rfl) 3 _ rfl ⟨bo, 1, none⟩ rfl _ _ (fun W' hS => by rw [hS.cell]; rfl) Try.underlying3 rfl) (by assumption) ?_
        try simp only [Act.put, List.setIfInBounds_toArray, List.set_cons_zero, List.set_cons_succ]
        refine wpAnyH_take (i := 2) (oi := ⟨some 41, _, _, _, _, _⟩) (v := ?_) rfl (by kernel_rfl) (by kernel_rfl) (by kernel_rfl) (fun _ _ _ h => h) (Or.inl ⟨by rfl, ?_⟩) (by assumption) ?_
        rotate_left
        · intro w hSw; (try dsimp only at hSw); go_simp; try (with_reducible rfl)
        rotate_left 0
        try simp only [Act.put, List.setIfInBounds_toArray, List.set_cons_zero, List.set_cons_succ]
        refine wpAnyH_take (i := 3) (oi := ⟨some 42, _, _, _, _, _⟩) (v := (.int .i64 s)) rfl (by kernel_rfl) (by kernel_rfl) (by kernel_rfl) (fun _ _ _ h => h) (yields_cell (by rfl) 3 _ rfl ⟨bo, 2, none⟩ rfl _ _ (fun W' hS => by rw [hS.cell]; rfl) Try.underlying3 rfl) (by assumption) ?_
        try simp only [Act.put, List.setIfInBounds_toArray, List.set_cons_zero, List.set_cons_succ]
        refine wpAnyH_take (i := 5) (oi := ⟨some 44, _, _, _, _, _⟩) (v := ?_) rfl (by kernel_rfl) (by kernel_rfl) (by kernel_rfl) (fun _ _ _ h => h) (Or.inl ⟨by rfl, ?_⟩) (by assumption) ?_
        rotate_left
        · intro w hSw; (try dsimp only at hSw); go_simp; try (with_reducible rfl)
        rotate_left 0
        try simp only [Act.put, List.setIfInBounds_toArray, List.set_cons_zero, List.set_cons_succ]
        refine wpAnyH_ready (rs := [4]) (by kernel_rfl) (by simp) ?_
        refine (AllReadyH.cons (o := ⟨some 43, _, _, _, _, _⟩) rfl (fun K hK => ?_) AllReadyH.nil)
        (try rw [if_pos (by rfl)])
        go_simp
        refine (HSET.out _ (HTM5.out.below (Below.refl _ _).drew)).mono ?_
        rintro e Wt ⟨rfl, htm, hgt⟩
        have hgt5 : W5.grownBy Wt (some g) := grown_trans' (grown_below (Below.refl _ _).drew _) hgt
        have kx : Blk Wt bo 31 #[.int .i64 0, .int .i64 r, .int .i64 s] := HOB5.out.grown hgt5 (fun e => by have := HGO.out; have := Option.some.inj e; omega)
        try dsimp only
        refine hK.out _ _ (kx) (fun hHeld => ?_)
        clear hK K
        try simp only [Act.put, List.setIfInBounds_toArray, List.set_cons_zero, List.set_cons_succ]
        refine wpAnyH_take (i := 6) (oi := ⟨some 45, _, _, _, _, _⟩) (v := (.bool false)) rfl (by kernel_rfl) (by kernel_rfl) (by kernel_rfl) (fun _ _ _ h => h) (yields_bin (by rfl) .neq 4 _ _ _ rfl (.bool b) (.bool b) rfl rfl _ (fun _ => rfl) (neq_boolT b)) (by assumption) ?_
        try simp only [Act.put, List.setIfInBounds_toArray, List.set_cons_zero, List.set_cons_succ]
        refine wpAnyH_take (i := 7) (oi := ⟨some 46, _, _, _, _, _⟩) (v := ?_) rfl (by kernel_rfl) (by kernel_rfl) (by kernel_rfl) (fun _ _ _ h => h) (Or.inl ⟨by rfl, ?_⟩) (by assumption) ?_
        rotate_left
        · intro w hSw; (try dsimp only at hSw); go_simp; try (with_reducible rfl)
        rotate_left 0
        try simp only [Act.put, List.setIfInBounds_toArray, List.set_cons_zero, List.set_cons_succ]
        refine wpAnyH_take (i := 8) (oi := ⟨some 47, _, _, _, _, _⟩) (v := ?_) rfl (by kernel_rfl) (by kernel_rfl) (by kernel_rfl) (fun _ _ _ h => h) (Or.inl ⟨by rfl, ?_⟩) (by assumption) ?_
        rotate_left
        · intro w hSw; (try dsimp only at hSw); go_simp; try (with_reducible rfl)
        rotate_left 0
        try simp only [Act.put, List.setIfInBounds_toArray, List.set_cons_zero, List.set_cons_succ]
        refine wpAnyH_take (i := 9) (oi := ⟨some 48, _, _, _, _, _⟩) (v := (.int .i64 r)) rfl (by kernel_rfl) (by kernel_rfl) (by kernel_rfl) (fun _ _ _ h => h) (yields_cell (by rfl) 3 _ rfl ⟨bo, 1, none⟩ rfl _ _ (fun W' hS => by rw [hS.cell]; rfl) Try.underlying3 rfl) (by assumption) ?_
        try simp only [Act.put, List.setIfInBounds_toArray, List.set_cons_zero, List.set_cons_succ]
        refine wpAnyH_take (i := 11) (oi := ⟨some 50, _, _, _, _, _⟩) (v := ?_) rfl (by kernel_rfl) (by kernel_rfl) (by kernel_rfl) (fun _ _ _ h => h) (Or.inl ⟨by rfl, ?_⟩) (by assumption) ?_
        rotate_left
        · intro w hSw; (try dsimp only at hSw); go_simp; try (with_reducible rfl)
        rotate_left 0
        try simp only [Act.put, List.setIfInBounds_toArray, List.set_cons_zero, List.set_cons_succ]
        refine wpAnyH_take (i := 12) (oi := ⟨some 51, _, _, _, _, _⟩) (v := (.int .i64 r)) rfl (by kernel_rfl) (by kernel_rfl) (by kernel_rfl) (fun _ _ _ h => h) (yields_cell (by rfl) 3 _ rfl ⟨bo, 1, none⟩ rfl _ _ (fun W' hS => by rw [hS.cell]; rfl) Try.underlying3 rfl) (by assumption) ?_
        try simp only [Act.put, List.setIfInBounds_toArray, List.set_cons_zero, List.set_cons_succ]
        refine wpAnyH_ready (rs := [10]) (by kernel_rfl) (by simp) ?_
        refine (AllReadyH.cons (o := ⟨some 49, _, _, _, _, _⟩) rfl (fun K hK => ?_) AllReadyH.nil)
        (try rw [if_pos (by rfl)])
        go_simp
        refine (delay_any r _).mono ?_
        rintro e Wu ⟨rfl, hu⟩
        obtain rfl := hu.symm
        try dsimp only
        refine hK.out _ _ (kx) (fun hHeld => ?_)
        clear hK K
        try simp only [Act.put, List.setIfInBounds_toArray, List.set_cons_zero, List.set_cons_succ]
        refine wpAnyH_ready (rs := [13]) (by kernel_rfl) (by simp) ?_
        refine (AllReadyH.cons (o := ⟨some 52, _, _, _, _, _⟩) rfl (fun K hK => ?_) AllReadyH.nil)
        (try rw [if_pos (by rfl)])
        go_simp
        refine (refdelay_any r _).mono ?_
        rintro e Wu ⟨rfl, hu⟩
        obtain rfl := hu.symm
        try dsimp only
        refine hK.out _ _ (kx) (fun hHeld => ?_)
        clear hK K
        try simp only [Act.put, List.setIfInBounds_toArray, List.set_cons_zero, List.set_cons_succ]
        refine wpAnyH_take (i := 14) (oi := ⟨some 53, _, _, _, _, _⟩) (v := (.bool false)) rfl (by kernel_rfl) (by kernel_rfl) (by kernel_rfl) (fun _ _ _ h => h) (yields_bin (by rfl) .neq 3 _ _ _ rfl (.int .i64 (dly r)) (.int .i64 (dly r)) rfl rfl _ (fun _ => rfl) (int_neqT _)) (by assumption) ?_
        try simp only [Act.put, List.setIfInBounds_toArray, List.set_cons_zero, List.set_cons_succ]
        refine wpAnyH_take (i := 15) (oi := ⟨some 54, _, _, _, _, _⟩) (v := ?_) rfl (by kernel_rfl) (by kernel_rfl) (by kernel_rfl) (fun _ _ _ h => h) (Or.inl ⟨by rfl, ?_⟩) (by assumption) ?_
        rotate_left
        · intro w hSw; (try dsimp only at hSw); go_simp; try (with_reducible rfl)
        rotate_left 0
        try simp only [Act.put, List.setIfInBounds_toArray, List.set_cons_zero, List.set_cons_succ]
        refine wpAnyH_done (by kernel_rfl) ?_ _
        have HTM : Hid (TimerAt Wt g (p : Int) LN) := Lib.hid htm
        have HBN : Hid (Below w.heap.size w Wt) := Lib.hid (grown_base HB5.out hgt5 HGW.out)
        have HROW : Hid (RowT Wt g (.slice A4 m4 c4) (LN.map (dueOf (p : Int)))) := Lib.hid (HROW5.out.turned hgt5)
        go_upto_region 34 with fail
        have HLE := Lib.hid (len_any HTM.out)
        have HNO := Lib.hid (now_any HTM.out)
        rw [HLM.out] at HLE
        go_wp2_with (first
          | (go_at_call 15; refine HLE.out.mono ?_; rintro e W20 ⟨rfl, h20⟩; obtain rfl := h20.symm)
          | (go_at_call 16; refine HNO.out.mono ?_; rintro e W21 ⟨rfl, h21⟩; obtain rfl := h21.symm))
        go_roundw
        case rel => exact ⟨j + 1, p, LN, hlt, by go_num, by go_num, HTM.out, HOKN.out, HROW.out, by omega, HBN.out⟩
        case measure => simp [intOf]; omega
      · by_cases hk1 : K = 1
        · subst hk1
          go_upto_region 11 with (first
            | (guard_target = wpList _ _ _ (Oper.mk _ (.load 31 _) _ _ _ _ :: _) _ _; refine wpList_load_runT (by rfl) 31 _ rfl (.pointer (some (ad.add (j * 3)))) (.agg #[.int .i64 1, .int .i64 r, .int .i64 s]) rfl (HLD.out) ?_))
          obtain ⟨wb, hwb⟩ : ∃ z, wr.alloc (.cells #[.int .i64 1, .int .i64 r, .int .i64 s] 31) = z := ⟨_, rfl⟩
          obtain ⟨bo, hbo⟩ : ∃ bo, wr.heap.size = bo := ⟨_, rfl⟩
          have hbb : Below wr.heap.size wr wb := by rw [← hwb]; exact (Below.refl _ _).alloc (Nat.le_refl _) _
          have HOB : Hid (Blk wb bo 31 #[.int .i64 1, .int .i64 r, .int .i64 s]) := Lib.hid (by rw [← hwb, ← hbo]; exact Blk.new _ _ _)
          have c0 : wb.cell? ⟨bo, 0, none⟩ = some (.int .i64 1) := by rw [HOB.out.cell]; rfl
          have c1 : wb.cell? ⟨bo, 1, none⟩ = some (.int .i64 r) := by rw [HOB.out.cell]; rfl
          have c2 : wb.cell? ⟨bo, 2, none⟩ = some (.int .i64 s) := by rw [HOB.out.cell]; rfl
          have HTMB := Lib.hid (HTM0.out.below hbb)
          have HBB := Lib.hid (HB.out.trans (hbb.mono HB.out.size))
          have HROWB := Lib.hid (HROW0.out.below hbb)
          have HGO : Hid (g < bo) := Lib.hid (by rw [← hbo]; exact HTM0.out.lt)
          have HGL : Hid (g < wb.heap.size) := Lib.hid HTMB.out.lt
          try simp only [hwb, hbo]
          clear hwb hbo hbb
          have hp1 : (p : Int) + 1 ≤ 1000000 := by omega
          have HOK1 := Lib.hid (HOK.out.step hp1)
          have hov := over_any (W := wr) HTM0.out HOK1.out (by omega)
          have HOVA := Lib.hid fun W' (h : TimerAt W' g (p : Int) l) => over_any h HOK1.out (by omega)
          clear hov
          obtain ⟨m6, hm6⟩ : ∃ m6, (overL ((p : Int) + 1) l).length = m6 := ⟨_, rfl⟩
          obtain ⟨m5, hm5⟩ : ∃ m5, (keepL ((p : Int) + 1) l).length = m5 := ⟨_, rfl⟩
          have HM6 := Lib.hid hm6
          have HLM := Lib.hid hm5
          have hm40 : m6 ≤ 40 := by have := overL_le ((p : Int) + 1) l; have := HTM0.out.len40; omega
          have hrt := fun W' (h : RowT W' g u4 (l.map (dueOf (p : Int)))) => reftick_any u4 (l.map (dueOf (p : Int))) W' h.1 (by rw [List.length_map]; exact HTM0.out.len40) (due_bounds HOK.out)
          rw [leftD_due, overD_due] at hrt
          have HRT := Lib.hid hrt
          clear hrt hm6 hm5
          go_upto_region 20 with (first
            | (go_at_call 12; refine (HRT.out _ HROWB.out).mono ?_; rintro e W5 ⟨vl, vo, rfl, hrl, hro, hbl, hbo, hb5⟩; obtain ⟨A4, c4, rfl⟩ : ∃ A4 c4, vl = .slice A4 m5 c4 := (by obtain ⟨_, A4, c4, h, _⟩ := hrl; exact ⟨A4, c4, (by rw [h, List.length_map, HLM.out])⟩); obtain ⟨A2, c2', rfl⟩ : ∃ A2 c2, vo = .slice A2 m6 c2 := (by obtain ⟨_, A2, c2, h, _⟩ := hro; exact ⟨A2, c2, (by rw [h, List.length_map, HM6.out])⟩); have HRL5 : Hid (RowT W5 g (.slice A4 m5 c4) ((keepL ((p : Int) + 1) l).map (dueOf ((p : Int) + 1)))) := Lib.hid ⟨hrl, fun A m q hv => (by have := hbl A m q hv; have := HGL.out; omega)⟩; have HRO5 : Hid (RowT W5 g (.slice A2 m6 c2') ((overL ((p : Int) + 1) l).map (dueOf ((p : Int) + 1)))) := Lib.hid ⟨hro, fun A m q hv => (by have := hbo A m q hv; have := HGL.out; omega)⟩; have HB5 := Lib.hid (HBB.out.trans (hb5.mono HBB.out.size)); have HTM5 := Lib.hid (HTMB.out.below hb5); clear hrl hro hbl hbo hb5))
          go_upto_region 21 with (first
            | (go_at_call 13; refine (HOVA.out _ HTM5.out).mono ?_; rintro e W7 ⟨v, rfl, hrd, ht7, hg7⟩; obtain ⟨A6, c6, rfl⟩ : ∃ A6 c6, v = .slice A6 m6 c6 := (by obtain ⟨_, A6, c6, h, _⟩ := hrd; exact ⟨A6, c6, (by rw [h, List.length_map, HM6.out])⟩); have HRD := Lib.hid hrd; have HT7 := Lib.hid ht7; have HRL7 := Lib.hid (HRL5.out.turned hg7); have HRO7 := Lib.hid (HRO5.out.turned hg7); have HB7 := Lib.hid (grown_base HB5.out hg7 HGW.out); clear hrd ht7 hg7))
          clear c0 c1 c2
          go_loopw [12, 65] (fun s12 s65 wx => ∃ q : Nat, q ≤ m6 ∧ s65 = .int .i64 (q : Int) ∧ s12 = .int .i64 (q : Int) ∧ Below W7.heap.size W7 wx) (fun _ s65 _ => m6 - (intOf s65).toNat)
          case atStart => exact ⟨0, Nat.zero_le _, rfl, rfl, Below.refl _ _⟩
          case round =>
            obtain ⟨q, hq, rfl, rfl, hbq⟩ := hrel
            have HBQ := Lib.hid hbq
            clear hbq
            by_cases hlq : q < m6
            · have hqi : (q : Int) < (m6 : Int) := by omega
              have hq0 : (0 : Int) ≤ (q : Int) := by omega
              obtain ⟨x, hx⟩ : ∃ x, (overL ((p : Int) + 1) l)[q]? = some x := ⟨_, List.getElem?_eq_getElem (by rw [HM6.out]; exact hlq)⟩
              obtain ⟨r1, hr1⟩ : ∃ r1, x.getD 0 0 = r1 := ⟨_, rfl⟩
              obtain ⟨s1, hs1⟩ : ∃ s1, x.getD 1 0 = s1 := ⟨_, rfl⟩
              obtain ⟨ad, c', he, hld⟩ := load_pair (j := q) (r := r1) (s := s1) HRD.out (by rw [List.getElem?_map, hx, ← hr1, ← hs1]; rfl)
              rw [List.length_map, HM6.out] at he
              obtain ⟨rfl, -, rfl⟩ := Value.slice.inj he
              obtain ⟨ad2, c2b, he2, _, _, hcell2⟩ := HRO7.out.1.here (j := q) (x := dueOf ((p : Int) + 1) x) (by rw [List.getElem?_map, hx]; rfl)
              rw [List.length_map, HM6.out] at he2
              obtain ⟨rfl, -, rfl⟩ := Value.slice.inj he2
              have HLD := Lib.hid (hld _ HBQ.out)
              obtain ⟨wz, hwz⟩ : ∃ z, z = wr := ⟨_, rfl⟩
              subst hwz
              go_upto_region 23 with (first
                | (guard_target = wpList _ _ _ (Oper.mk _ (.load 41 _) _ _ _ _ :: _) _ _; refine wpList_load_runT (by rfl) 41 _ rfl (.pointer (some (ad.add (q * 2)))) (.agg #[.int .i64 r1, .int .i64 s1]) rfl (HLD.out) ?_))
              obtain ⟨Wy, hWy⟩ : ∃ z, wz.alloc (.cells #[.int .i64 r1, .int .i64 s1] 41) = z := ⟨_, rfl⟩
              obtain ⟨bp, hbp⟩ : ∃ bp, wz.heap.size = bp := ⟨_, rfl⟩
              have hby : Below wz.heap.size wz Wy := by rw [← hWy]; exact (Below.refl _ _).alloc (Nat.le_refl _) _
              have HKP : Hid (Blk Wy bp 41 #[.int .i64 r1, .int .i64 s1]) := Lib.hid (by rw [← hWy, ← hbp]; exact Blk.new _ _ _)
              have HBY := Lib.hid (HBQ.out.trans (hby.mono HBQ.out.size))
              have HP0 : Hid (∀ W', Below Wy.heap.size Wy W' → W'.cell? ⟨bp, 0, none⟩ = some (.int .i64 r1)) := Lib.hid fun W' hb => by rw [(HKP.out.below hb HKP.out.lt).cell]; rfl
              have HP1 : Hid (∀ W', Below Wy.heap.size Wy W' → W'.cell? ⟨bp, 1, none⟩ = some (.int .i64 s1)) := Lib.hid fun W' hb => by rw [(HKP.out.below hb HKP.out.lt).cell]; rfl
              have HV1 : Hid (∀ W', Below Wy.heap.size Wy W' → W'.cell? ((ad2.add (q * 3)).add 1) = some (.int .i64 r1)) := Lib.hid fun W' hb => by rw [hcell2 W' (HBY.out.trans (hb.mono HBY.out.size)) 1 (by omega), ← hr1]; rfl
              have HV2 : Hid (∀ W', Below Wy.heap.size Wy W' → W'.cell? ((ad2.add (q * 3)).add 2) = some (.int .i64 s1)) := Lib.hid fun W' hb => by rw [hcell2 W' (HBY.out.trans (hb.mono HBY.out.size)) 2 (by omega), ← hs1]; rfl
              try simp only [hWy, hbp]
              clear hWy hbp hby hx hld hcell2
              refine wp_region_held_drew (S := fun W' => Below Wy.heap.size Wy W') (by kernel_rfl) ?_ (fun hHeld => ?_)
              · exact (Below.refl _ _).drew
              refine wpAnyH_take (i := 0) (oi := ⟨some 69, _, _, _, _, _⟩) (v := ?_) rfl (by kernel_rfl) (by kernel_rfl) (by kernel_rfl) (fun _ _ _ h => h) (Or.inl ⟨by rfl, ?_⟩) (by assumption) ?_
              rotate_left
              · intro w hSw; (try dsimp only at hSw); go_simp; try (with_reducible rfl)
              rotate_left 0
              try simp only [Act.put, List.setIfInBounds_toArray, List.set_cons_zero, List.set_cons_succ]
              refine wpAnyH_take (i := 1) (oi := ⟨some 70, _, _, _, _, _⟩) (v := ?_) rfl (by kernel_rfl) (by kernel_rfl) (by kernel_rfl) (fun _ _ _ h => h) (Or.inl ⟨by rfl, ?_⟩) (by assumption) ?_
              rotate_left
              · intro w hSw; (try dsimp only at hSw); go_simp; try (with_reducible rfl)
              rotate_left 0
              try simp only [Act.put, List.setIfInBounds_toArray, List.set_cons_zero, List.set_cons_succ]
              refine wpAnyH_take (i := 2) (oi := ⟨some 71, _, _, _, _, _⟩) (v := ?_) rfl (by kernel_rfl) (by kernel_rfl) (by kernel_rfl) (fun _ _ _ h => h) (Or.inl ⟨by rfl, ?_⟩) (by assumption) ?_
              rotate_left
              · intro w hSw; (try dsimp only at hSw); go_simp; try (with_reducible rfl)
              rotate_left 0
              try simp only [Act.put, List.setIfInBounds_toArray, List.set_cons_zero, List.set_cons_succ]
              refine wpAnyH_take (i := 3) (oi := ⟨some 72, _, _, _, _, _⟩) (v := (.bool false)) rfl (by kernel_rfl) (by kernel_rfl) (by kernel_rfl) (fun _ _ _ h => h) (yields_bin (by rfl) .geq 3 _ _ _ rfl (.int .i64 (q : Int)) (.int .i64 (m6 : Int)) rfl rfl _ (fun _ => rfl) (int_geqF _ _ hqi)) (by assumption) ?_
              try simp only [Act.put, List.setIfInBounds_toArray, List.set_cons_zero, List.set_cons_succ]
              refine wpAnyH_take (i := 4) (oi := ⟨some 73, _, _, _, _, _⟩) (v := ?_) rfl (by kernel_rfl) (by kernel_rfl) (by kernel_rfl) (fun _ _ _ h => h) (Or.inl ⟨by rfl, ?_⟩) (by assumption) ?_
              rotate_left
              · intro w hSw; (try dsimp only at hSw); go_simp; try (with_reducible rfl)
              rotate_left 0
              try simp only [Act.put, List.setIfInBounds_toArray, List.set_cons_zero, List.set_cons_succ]
              refine wpAnyH_take (i := 5) (oi := ⟨some 74, _, _, _, _, _⟩) (v := ?_) rfl (by kernel_rfl) (by kernel_rfl) (by kernel_rfl) (fun _ _ _ h => h) (Or.inl ⟨by rfl, ?_⟩) (by assumption) ?_
              rotate_left
              · intro w hSw; (try dsimp only at hSw); go_simp; try (with_reducible rfl)
              rotate_left 0
              try simp only [Act.put, List.setIfInBounds_toArray, List.set_cons_zero, List.set_cons_succ]
              refine wpAnyH_take (i := 6) (oi := ⟨some 75, _, _, _, _, _⟩) (v := ?_) rfl (by kernel_rfl) (by kernel_rfl) (by kernel_rfl) (fun _ _ _ h => h) (Or.inl ⟨by rfl, ?_⟩) (by assumption) ?_
              rotate_left
              · intro w hSw; (try dsimp only at hSw); go_simp; try (with_reducible rfl)
              rotate_left 0
              try simp only [Act.put, List.setIfInBounds_toArray, List.set_cons_zero, List.set_cons_succ]
              refine wpAnyH_take (i := 7) (oi := ⟨some 76, _, _, _, _, _⟩) (v := (.pointer (some (ad2.add (q * 3))))) rfl (by kernel_rfl) (by kernel_rfl) (by kernel_rfl) (fun _ _ _ h => h) (yields_index (by rfl) 29 _ _ rfl (.slice (some ad2) m6 c2') (.int .i64 (q : Int)) rfl rfl _ (fun W' => index_due ad2 m6 c2' q hlq W')) (by assumption) ?_
              try simp only [Act.put, List.setIfInBounds_toArray, List.set_cons_zero, List.set_cons_succ]
              refine wpAnyH_take (i := 8) (oi := ⟨some 77, _, _, _, _, _⟩) (v := ?_) rfl (by kernel_rfl) (by kernel_rfl) (by kernel_rfl) (fun _ _ _ h => h) (Or.inl ⟨by rfl, ?_⟩) (by assumption) ?_
              rotate_left
              · intro w hSw; (try dsimp only at hSw); go_simp; try (with_reducible rfl)
              rotate_left 0
              try simp only [Act.put, List.setIfInBounds_toArray, List.set_cons_zero, List.set_cons_succ]
              refine wpAnyH_take (i := 9) (oi := ⟨some 78, _, _, _, _, _⟩) (v := (.int .i64 r1)) rfl (by kernel_rfl) (by kernel_rfl) (by kernel_rfl) (fun _ _ _ h => h) (yields_cell (by rfl) 3 _ rfl ((ad2.add (q * 3)).add 1) rfl _ _ (fun W' hS => HV1.out W' hS) Try.underlying3 rfl) (by assumption) ?_
              try simp only [Act.put, List.setIfInBounds_toArray, List.set_cons_zero, List.set_cons_succ]
              refine wpAnyH_take (i := 10) (oi := ⟨some 79, _, _, _, _, _⟩) (v := ?_) rfl (by kernel_rfl) (by kernel_rfl) (by kernel_rfl) (fun _ _ _ h => h) (Or.inl ⟨by rfl, ?_⟩) (by assumption) ?_
              rotate_left
              · intro w hSw; (try dsimp only at hSw); go_simp; try (with_reducible rfl)
              rotate_left 0
              try simp only [Act.put, List.setIfInBounds_toArray, List.set_cons_zero, List.set_cons_succ]
              refine wpAnyH_take (i := 11) (oi := ⟨some 80, _, _, _, _, _⟩) (v := (.int .i64 r1)) rfl (by kernel_rfl) (by kernel_rfl) (by kernel_rfl) (fun _ _ _ h => h) (yields_cell (by rfl) 3 _ rfl ⟨bp, 0, none⟩ rfl _ _ (fun W' hS => HP0.out W' hS) Try.underlying3 rfl) (by assumption) ?_
              try simp only [Act.put, List.setIfInBounds_toArray, List.set_cons_zero, List.set_cons_succ]
              refine wpAnyH_take (i := 12) (oi := ⟨some 81, _, _, _, _, _⟩) (v := (.bool false)) rfl (by kernel_rfl) (by kernel_rfl) (by kernel_rfl) (fun _ _ _ h => h) (yields_bin (by rfl) .neq 3 _ _ _ rfl (.int .i64 r1) (.int .i64 r1) rfl rfl _ (fun _ => rfl) (int_neqT _)) (by assumption) ?_
              try simp only [Act.put, List.setIfInBounds_toArray, List.set_cons_zero, List.set_cons_succ]
              refine wpAnyH_take (i := 13) (oi := ⟨some 82, _, _, _, _, _⟩) (v := ?_) rfl (by kernel_rfl) (by kernel_rfl) (by kernel_rfl) (fun _ _ _ h => h) (Or.inl ⟨by rfl, ?_⟩) (by assumption) ?_
              rotate_left
              · intro w hSw; (try dsimp only at hSw); go_simp; try (with_reducible rfl)
              rotate_left 0
              try simp only [Act.put, List.setIfInBounds_toArray, List.set_cons_zero, List.set_cons_succ]
              refine wpAnyH_take (i := 14) (oi := ⟨some 83, _, _, _, _, _⟩) (v := ?_) rfl (by kernel_rfl) (by kernel_rfl) (by kernel_rfl) (fun _ _ _ h => h) (Or.inl ⟨by rfl, ?_⟩) (by assumption) ?_
              rotate_left
              · intro w hSw; (try dsimp only at hSw); go_simp; try (with_reducible rfl)
              rotate_left 0
              try simp only [Act.put, List.setIfInBounds_toArray, List.set_cons_zero, List.set_cons_succ]
              refine wpAnyH_take (i := 15) (oi := ⟨some 84, _, _, _, _, _⟩) (v := ?_) rfl (by kernel_rfl) (by kernel_rfl) (by kernel_rfl) (fun _ _ _ h => h) (Or.inl ⟨by rfl, ?_⟩) (by assumption) ?_
              rotate_left
              · intro w hSw; (try dsimp only at hSw); go_simp; try (with_reducible rfl)
              rotate_left 0
              try simp only [Act.put, List.setIfInBounds_toArray, List.set_cons_zero, List.set_cons_succ]
              refine wpAnyH_take (i := 16) (oi := ⟨some 85, _, _, _, _, _⟩) (v := ?_) rfl (by kernel_rfl) (by kernel_rfl) (by kernel_rfl) (fun _ _ _ h => h) (Or.inl ⟨by rfl, ?_⟩) (by assumption) ?_
              rotate_left
              · intro w hSw; (try dsimp only at hSw); go_simp; try (with_reducible rfl)
              rotate_left 0
              try simp only [Act.put, List.setIfInBounds_toArray, List.set_cons_zero, List.set_cons_succ]
              refine wpAnyH_take (i := 17) (oi := ⟨some 86, _, _, _, _, _⟩) (v := (.pointer (some (ad2.add (q * 3))))) rfl (by kernel_rfl) (by kernel_rfl) (by kernel_rfl) (fun _ _ _ h => h) (yields_index (by rfl) 29 _ _ rfl (.slice (some ad2) m6 c2') (.int .i64 (q : Int)) rfl rfl _ (fun W' => index_due ad2 m6 c2' q hlq W')) (by assumption) ?_
              try simp only [Act.put, List.setIfInBounds_toArray, List.set_cons_zero, List.set_cons_succ]
              refine wpAnyH_take (i := 18) (oi := ⟨some 87, _, _, _, _, _⟩) (v := ?_) rfl (by kernel_rfl) (by kernel_rfl) (by kernel_rfl) (fun _ _ _ h => h) (Or.inl ⟨by rfl, ?_⟩) (by assumption) ?_
              rotate_left
              · intro w hSw; (try dsimp only at hSw); go_simp; try (with_reducible rfl)
              rotate_left 0
              try simp only [Act.put, List.setIfInBounds_toArray, List.set_cons_zero, List.set_cons_succ]
              refine wpAnyH_take (i := 19) (oi := ⟨some 88, _, _, _, _, _⟩) (v := (.int .i64 s1)) rfl (by kernel_rfl) (by kernel_rfl) (by kernel_rfl) (fun _ _ _ h => h) (yields_cell (by rfl) 3 _ rfl ((ad2.add (q * 3)).add 2) rfl _ _ (fun W' hS => HV2.out W' hS) Try.underlying3 rfl) (by assumption) ?_
              try simp only [Act.put, List.setIfInBounds_toArray, List.set_cons_zero, List.set_cons_succ]
              refine wpAnyH_take (i := 20) (oi := ⟨some 89, _, _, _, _, _⟩) (v := ?_) rfl (by kernel_rfl) (by kernel_rfl) (by kernel_rfl) (fun _ _ _ h => h) (Or.inl ⟨by rfl, ?_⟩) (by assumption) ?_
              rotate_left
              · intro w hSw; (try dsimp only at hSw); go_simp; try (with_reducible rfl)
              rotate_left 0
              try simp only [Act.put, List.setIfInBounds_toArray, List.set_cons_zero, List.set_cons_succ]
              refine wpAnyH_take (i := 21) (oi := ⟨some 90, _, _, _, _, _⟩) (v := (.int .i64 s1)) rfl (by kernel_rfl) (by kernel_rfl) (by kernel_rfl) (fun _ _ _ h => h) (yields_cell (by rfl) 3 _ rfl ⟨bp, 1, none⟩ rfl _ _ (fun W' hS => HP1.out W' hS) Try.underlying3 rfl) (by assumption) ?_
              try simp only [Act.put, List.setIfInBounds_toArray, List.set_cons_zero, List.set_cons_succ]
              refine wpAnyH_take (i := 22) (oi := ⟨some 91, _, _, _, _, _⟩) (v := (.bool false)) rfl (by kernel_rfl) (by kernel_rfl) (by kernel_rfl) (fun _ _ _ h => h) (yields_bin (by rfl) .neq 3 _ _ _ rfl (.int .i64 s1) (.int .i64 s1) rfl rfl _ (fun _ => rfl) (int_neqT _)) (by assumption) ?_
              try simp only [Act.put, List.setIfInBounds_toArray, List.set_cons_zero, List.set_cons_succ]
              refine wpAnyH_take (i := 23) (oi := ⟨some 92, _, _, _, _, _⟩) (v := ?_) rfl (by kernel_rfl) (by kernel_rfl) (by kernel_rfl) (fun _ _ _ h => h) (Or.inl ⟨by rfl, ?_⟩) (by assumption) ?_
              rotate_left
              · intro w hSw; (try dsimp only at hSw); go_simp; try (with_reducible rfl)
              rotate_left 0
              try simp only [Act.put, List.setIfInBounds_toArray, List.set_cons_zero, List.set_cons_succ]
              refine wpAnyH_done (by kernel_rfl) ?_ _
              go_wp2_with fail
              go_roundw
              case rel => exact ⟨q + 1, hlq, by go_num, by go_num, HBY.out.trans ((Below.refl _ Wy).drew.mono HBY.out.size)⟩
              case measure => simp [intOf]; omega
            · obtain rfl : q = m6 := by omega
              have hqi : ¬ (q : Int) < (q : Int) := by omega
              have HTM := Lib.hid (HT7.out.below HBQ.out)
              have HOKN : Hid (OkL ((p : Int) + 1) (keepL ((p : Int) + 1) l)) := Lib.hid HOK1.out.keep
              have HROW : Hid (RowT wr g (.slice A4 m5 c4) ((keepL ((p : Int) + 1) l).map (dueOf ((p : Int) + 1)))) := Lib.hid (HRL7.out.below HBQ.out)
              have HBN := Lib.hid (HB7.out.trans (HBQ.out.mono HB7.out.size))
              have epp : ((p + 1 : Nat) : Int) = (p : Int) + 1 := by omega
              go_upto_region 34 with fail
              have HLE := Lib.hid (len_any HTM.out)
              have HNO := Lib.hid (now_any HTM.out)
              rw [HLM.out] at HLE
              go_wp2_with (first
                | (go_at_call 15; refine HLE.out.mono ?_; rintro e W20 ⟨rfl, h20⟩; obtain rfl := h20.symm)
                | (go_at_call 16; refine HNO.out.mono ?_; rintro e W21 ⟨rfl, h21⟩; obtain rfl := h21.symm))
              go_roundw
              case rel => exact ⟨j + 1, p + 1, keepL ((p : Int) + 1) l, hlt, by go_num, by go_num, by rw [epp]; exact HTM.out, by rw [epp]; exact HOKN.out, by rw [epp]; exact HROW.out, by omega, HBN.out⟩
              case measure => simp [intOf]; omega
        · by_cases hk2 : K = 2
          · subst hk2
            go_upto_region 11 with (first
              | (guard_target = wpList _ _ _ (Oper.mk _ (.load 31 _) _ _ _ _ :: _) _ _; refine wpList_load_runT (by rfl) 31 _ rfl (.pointer (some (ad.add (j * 3)))) (.agg #[.int .i64 2, .int .i64 r, .int .i64 s]) rfl (HLD.out) ?_))
            obtain ⟨wb, hwb⟩ : ∃ z, wr.alloc (.cells #[.int .i64 2, .int .i64 r, .int .i64 s] 31) = z := ⟨_, rfl⟩
            obtain ⟨bo, hbo⟩ : ∃ bo, wr.heap.size = bo := ⟨_, rfl⟩
            have hbb : Below wr.heap.size wr wb := by rw [← hwb]; exact (Below.refl _ _).alloc (Nat.le_refl _) _
            have HOB : Hid (Blk wb bo 31 #[.int .i64 2, .int .i64 r, .int .i64 s]) := Lib.hid (by rw [← hwb, ← hbo]; exact Blk.new _ _ _)
            have c0 : wb.cell? ⟨bo, 0, none⟩ = some (.int .i64 2) := by rw [HOB.out.cell]; rfl
            have c1 : wb.cell? ⟨bo, 1, none⟩ = some (.int .i64 r) := by rw [HOB.out.cell]; rfl
            have c2 : wb.cell? ⟨bo, 2, none⟩ = some (.int .i64 s) := by rw [HOB.out.cell]; rfl
            have HTMB := Lib.hid (HTM0.out.below hbb)
            have HBB := Lib.hid (HB.out.trans (hbb.mono HB.out.size))
            have HROWB := Lib.hid (HROW0.out.below hbb)
            have HGO : Hid (g < bo) := Lib.hid (by rw [← hbo]; exact HTM0.out.lt)
            have HGL : Hid (g < wb.heap.size) := Lib.hid HTMB.out.lt
            try simp only [hwb, hbo]
            clear hwb hbo hbb
            have HCL := Lib.hid (clear_any HTMB.out)
            have HLM : Hid (([] : List (List Int)).length = 0) := Lib.hid rfl
            go_upto_region 34 with (first
              | (go_at_call 14; refine HCL.out.mono ?_; rintro e W5 ⟨⟨v5, rfl⟩, ht5, hg5⟩; have HTM := Lib.hid ht5; have HBN := Lib.hid (grown_base HBB.out hg5 HGW.out); clear ht5 hg5))
            have HOKN : Hid (OkL (p : Int) []) := Lib.hid (OkL.nil (by omega))
            have HROW : Hid (RowT W5 g (.slice none 0 0) (([] : List (List Int)).map (dueOf (p : Int)))) := Lib.hid ⟨RdK.nil _ _, fun A m q hv => by cases hv⟩
            have HLE := Lib.hid (len_any HTM.out)
            have HNO := Lib.hid (now_any HTM.out)
            rw [HLM.out] at HLE
            go_wp2_with (first
              | (go_at_call 15; refine HLE.out.mono ?_; rintro e W20 ⟨rfl, h20⟩; obtain rfl := h20.symm)
              | (go_at_call 16; refine HNO.out.mono ?_; rintro e W21 ⟨rfl, h21⟩; obtain rfl := h21.symm))
            go_roundw
            case rel => exact ⟨j + 1, p, [], hlt, by go_num, by go_num, HTM.out, HOKN.out, HROW.out, by omega, HBN.out⟩
            case measure => simp [intOf]; omega
          · have e0 : (K == 0) = false := beq_eq_false_iff_ne.2 hk0
            have e1 : (K == 1) = false := beq_eq_false_iff_ne.2 hk1
            have e2 : (K == 2) = false := beq_eq_false_iff_ne.2 hk2
            clear hk0 hk1 hk2
            go_upto_region 11 with (first
              | (guard_target = wpList _ _ _ (Oper.mk _ (.load 31 _) _ _ _ _ :: _) _ _; refine wpList_load_runT (by rfl) 31 _ rfl (.pointer (some (ad.add (j * 3)))) (.agg #[.int .i64 K, .int .i64 r, .int .i64 s]) rfl (HLD.out) ?_))
            obtain ⟨wb, hwb⟩ : ∃ z, wr.alloc (.cells #[.int .i64 K, .int .i64 r, .int .i64 s] 31) = z := ⟨_, rfl⟩
            obtain ⟨bo, hbo⟩ : ∃ bo, wr.heap.size = bo := ⟨_, rfl⟩
            have hbb : Below wr.heap.size wr wb := by rw [← hwb]; exact (Below.refl _ _).alloc (Nat.le_refl _) _
            have HOB : Hid (Blk wb bo 31 #[.int .i64 K, .int .i64 r, .int .i64 s]) := Lib.hid (by rw [← hwb, ← hbo]; exact Blk.new _ _ _)
            have c0 : wb.cell? ⟨bo, 0, none⟩ = some (.int .i64 K) := by rw [HOB.out.cell]; rfl
            have c1 : wb.cell? ⟨bo, 1, none⟩ = some (.int .i64 r) := by rw [HOB.out.cell]; rfl
            have c2 : wb.cell? ⟨bo, 2, none⟩ = some (.int .i64 s) := by rw [HOB.out.cell]; rfl
            have HTMB := Lib.hid (HTM0.out.below hbb)
            have HBB := Lib.hid (HB.out.trans (hbb.mono HB.out.size))
            have HROWB := Lib.hid (HROW0.out.below hbb)
            have HGO : Hid (g < bo) := Lib.hid (by rw [← hbo]; exact HTM0.out.lt)
            have HGL : Hid (g < wb.heap.size) := Lib.hid HTMB.out.lt
            try simp only [hwb, hbo]
            clear hwb hbo hbb
            obtain ⟨m4, hm4⟩ : ∃ m4, l.length = m4 := ⟨_, rfl⟩
            have HLM := Lib.hid hm4
            clear hm4
            obtain ⟨A4, c4, rfl⟩ : ∃ A4 c4, u4 = .slice A4 m4 c4 := by
              obtain ⟨⟨_, A4, c4, h, _⟩, _⟩ := HROWB.out
              exact ⟨A4, c4, by rw [h, List.length_map, HLM.out]⟩
            have HTM := HTMB
            have HBN := HBB
            have HROW := HROWB
            have HOKN := HOK
            go_upto_region 34 with fail
            have HLE := Lib.hid (len_any HTM.out)
            have HNO := Lib.hid (now_any HTM.out)
            rw [HLM.out] at HLE
            go_wp2_with (first
              | (go_at_call 15; refine HLE.out.mono ?_; rintro e W20 ⟨rfl, h20⟩; obtain rfl := h20.symm)
              | (go_at_call 16; refine HNO.out.mono ?_; rintro e W21 ⟨rfl, h21⟩; obtain rfl := h21.symm))
            go_roundw
            case rel => exact ⟨j + 1, p, l, hlt, by go_num, by go_num, HTM.out, HOKN.out, HROW.out, by omega, HBN.out⟩
            case measure => simp [intOf]; omega
    · obtain rfl : j = n := by omega
      have hji : ¬ (j : Int) < (j : Int) := by omega
      go_wp2_with fail
      go_ret
      exact ⟨rfl, HB.out⟩
theorem plays_law (v : Value) (L : List (List Int)) (w : World) (hr : RdO w v L) : Calls Try.prog 3 #[v] w fun e w' => e = .returned (.bool true) ∧ Below w.heap.size w w' := by
  obtain ⟨_, A, c, rfl, _, _⟩ := id hr
  by_cases h : 300 < (L.length : Int)
  · exact plays_early A L.length c h w
  · exact plays_high A L.length c L w (hr.rdK (by omega)) rfl (by omega)
end Go.Proofs.Ytgcpiaogodgphaa
