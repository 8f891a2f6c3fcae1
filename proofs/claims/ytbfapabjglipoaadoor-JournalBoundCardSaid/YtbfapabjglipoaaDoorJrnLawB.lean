/-
  Layer 10: the law JournalBound. In whatever memory in which the tables lie. No condition.
-/
import Derived.Test.YtbfapabjglipoaaDoorJrnHall
namespace Go.Proofs.YtbfapabjglipoaaDoor
open Go Go.RowKit Go.Shelf

theorem new_100000 (w : World) : Calls Tryd.prog 11 #[.int .i64 100000] w fun e w' => e = .returned (.tuple #[.pointer (some ⟨w.heap.size, 0, none⟩), .int .i64 0]) ∧ SlabAt w' (fun i => i = w.heap.size) w.heap.size ⟨100000, [], 0, -1⟩ ∧ Below w.heap.size w w' := by
  have h := slabNew_any 100000 (by omega) w
  rw [Int.cast_ofNat_Int] at h
  exact h
theorem js_lastL {w : World} {S : Nat → Prop} {g gd : Nat} {l : List (List UInt8)} {sd : SlabS} (h : JS w S g gd (jL l) sd) : Calls Tryd.prog 25 #[.pointer (some ⟨g, 0, none⟩)] w fun e w' => e = .returned (.agg (arr 32 fun i => bv (lastT zeroD l i))) ∧ Below w.heap.size w w' := js_last h
theorem js_lenL {w : World} {S : Nat → Prop} {g gd : Nat} {l : List (List UInt8)} {sd : SlabS} (h : JS w S g gd (jL l) sd) : Calls Tryd.prog 24 #[.pointer (some ⟨g, 0, none⟩)] w fun e w' => e = .returned (.int .i64 (l.length : Int)) ∧ w' = w := js_len h
theorem neq_sameJ (f : Nat → UInt8) (w : World) : (binOp .neq 37 (.agg (arr 32 fun i => bv (f i))) (.agg (arr 32 fun i => bv (f i)))).run Tryd.prog w = .ok (.bool false) w := by
  have := neq_idJ f f w
  rw [beq_self_eq_true] at this
  exact this
/-- Between two records. -/
def BoundR (w : World) (g1 d1 g2 d2 r k : Nat) (wr : World) : Prop :=
  ∃ l Sa Sb sa sb, JS wr Sa g1 d1 (jL l) (sL r l sa) ∧ JS wr Sb g2 d2 (jL l) (sL 100000 l sb) ∧ (∀ i, Sa i → ¬ Sb i) ∧ (∀ i, Sa i → w.heap.size ≤ i) ∧ (∀ i, Sb i → w.heap.size ≤ i) ∧ Below w.heap.size w wr ∧ l.length ≤ k ∧ (∀ d ∈ l, d.length ≤ 300) ∧ (recsT zeroD l).length ≤ r
set_option maxRecDepth 100000 in
set_option maxHeartbeats 4000000 in
theorem bound_law (A : Option Addr) (c : Nat) (ps : List (List UInt8)) (room : Int) (w : World) (hT : Tables w) (hm : ps.length ≤ 140737488351232) (hr : RdP w (fun b => b < w.heap.size) A ps) :
    Calls Tryd.prog 6 #[.slice A ps.length c, .int .i64 room] w fun e w' => e = .returned (.bool true) ∧ Below w.heap.size w w' := by
  have HT := Lib.hid hT
  have HWR := Lib.hid (writes_any w hT)
  obtain ⟨n, hn⟩ : ∃ n, ps.length = n := ⟨_, rfl⟩
  rw [hn] at hm ⊢
  have HN := Lib.hid hn
  have HR := Lib.hid hr
  clear hT hr hn
  by_cases h12 : 12 < n
  · have e1 : decide ((n : Int) > 12) = true := decide_eq_true (by omega)
    go_enter Tryd.func6, Tryd.ntmps6
    go_wp2_with (go_at_call 10; refine HWR.out.mono ?_; rintro e W1 ⟨rfl, hb1⟩)
    go_ret
    exact ⟨rfl, hb1⟩
  · have e1 : decide ((n : Int) > 12) = false := decide_eq_false (by omega)
    by_cases h0 : room < 0
    · have e2 : decide (room < 0) = true := decide_eq_true h0
      go_enter Tryd.func6, Tryd.ntmps6
      go_wp2_with (go_at_call 10; refine HWR.out.mono ?_; rintro e W1 ⟨rfl, hb1⟩)
      go_ret
      exact ⟨rfl, hb1⟩
    · have e2 : decide (room < 0) = false := decide_eq_false h0
      by_cases h2 : 2000 < room
      · have e3 : decide (room > 2000) = true := decide_eq_true h2
        go_enter Tryd.func6, Tryd.ntmps6
        go_wp2_with (go_at_call 10; refine HWR.out.mono ?_; rintro e W1 ⟨rfl, hb1⟩)
        go_ret
        exact ⟨rfl, hb1⟩
      · have e3 : decide (room > 2000) = false := decide_eq_false h2
        obtain ⟨r, rfl⟩ : ∃ r : Nat, room = (r : Int) := ⟨room.toNat, by omega⟩
        have hr2 : r ≤ 2000 := by omega
        have HN12 : Hid (n ≤ 12) := Lib.hid (by omega)
        go_enter Tryd.func6, Tryd.ntmps6
        go_wp2_with (go_at_call 10; refine HWR.out.mono ?_; rintro e W1 ⟨rfl, hb1⟩)
        refine (slabNew_any r (by omega) W1).mono ?_
        rintro e W2 ⟨rfl, hd2, hb2⟩
        dsimp only
        go_wp2_with fail
        refine (new_100000 W2).mono ?_
        rintro e W3 ⟨rfl, hd3, hb3⟩
        have hb13 := hb1.trans ((hb2.trans (hb3.mono hb2.size)).mono hb1.size)
        dsimp only
        go_wp2_with fail
        have hd2' := hd2.below hb3
        have h12 : W1.heap.size < W2.heap.size := by obtain ⟨_, _, _, _, _, q, _⟩ := hd2; exact q _ rfl
        have h23 : W2.heap.size < W3.heap.size := by obtain ⟨_, _, _, _, _, q, _⟩ := hd3; exact q _ rfl
        have HB13 := Lib.hid hb13
        have HS1 := Lib.hid hb1.size
        refine (js_open (HT.out.below hb13) hd2' (openJ_all r [] 0 (-1) (by simp))).mono ?_
        rintro e W4 ⟨g1, S1, rfl, hj1, ht4, hS1⟩
        have hb4 : Below w.heap.size w W4 := below_turn hb13 (Nat.le_refl _) ht4 (fun i hi => by rw [hi]; exact HS1.out)
        have hd3' := hd3.turn ht4 (fun i hi e => by rw [hi] at e; omega)
        dsimp only
        go_wp2_with fail
        refine (js_open (HT.out.below hb4) hd3' (openJ_all 100000 [] 0 (-1) (by simp))).mono ?_
        rintro e W5 ⟨g2, S2, rfl, hj2, ht5, hS2⟩
        have hb5 : Below w.heap.size w W5 := below_turn hb4 (Nat.le_refl _) ht5 (fun i hi => by rw [hi]; have := HS1.out; omega)
        have HSTART : Hid (BoundR w g1 W1.heap.size g2 W2.heap.size r 0 W5) := Lib.hid (by
          have hl1 := hj1.lt
          have q3 := ht4.size
          refine ⟨[], S1, S2, 0, 0, hj1.turn ht5 (fun i hi e => ?_), hj2, fun i h1 h2 => ?_, fun i hi => ?_, fun i hi => ?_, hb5, Nat.le_refl _, by simp, Nat.zero_le _⟩
          · rcases hS1 i hi with h | h
            · omega
            · omega
          · have := hl1 i h1
            rcases hS2 i h2 with h | h
            · rcases hS1 i h1 with h' | h'
              · omega
              · omega
            · omega
          · have := HS1.out
            rcases hS1 i hi with h | h
            · omega
            · omega
          · have := HS1.out
            rcases hS2 i hi with h | h
            · omega
            · omega)
        clear hd2 hd2' hd3 hd3' hj1 hj2 ht4 ht5 hS1 hS2 hb4 hb5 hb2 hb3 hb13 h12 h23 hb1
        dsimp only
        go_wp2_with fail
        go_loopw [64] (fun i wr => ∃ k : Nat, k ≤ n ∧ i = .int .i64 (k : Int) ∧ BoundR w g1 W1.heap.size g2 W2.heap.size r k wr) (fun i _ => n - (intOf i).toNat)
        case atStart => exact ⟨0, Nat.zero_le _, rfl, HSTART.out⟩
        case round =>
          clear HSTART
          obtain ⟨k, hk, rfl, l, Sa, Sb, sa, sb, hja, hjb, hab, hSa, hSb, hbw, hlk, hl3, hlr⟩ := hrel
          by_cases hkn : k < n
          · have hki : (k : Int) < (n : Int) := by omega
            obtain ⟨ad, v, rfl, hok, hcell, hrd⟩ := HR.out k (by rw [HN.out]; exact hkn)
            have hcw := (hbw.cell (p := ad.add k) (by rw [block_add]; exact hok)).trans hcell
            obtain ⟨d, hd⟩ : ∃ d, ps.getD k [] = d := ⟨_, rfl⟩
            rw [hd] at hrd
            obtain ⟨Ae, ce, rfl, _⟩ := id hrd
            obtain ⟨m, hdm⟩ : ∃ m, d.length = m := ⟨_, rfl⟩
            rw [hdm] at hrd hcw
            have HRD := Lib.hid hrd
            have HDM := Lib.hid hdm
            clear hcell hrd hd hdm
            by_cases h300 : 300 < m
            · have e4 : decide ((m : Int) > 300) = true := decide_eq_true (by omega)
              clear hja hjb hab hSa hSb hlk hl3 hlr
              go_wp2
              go_ret
              exact ⟨rfl, hbw⟩
            · have e4 : decide ((m : Int) > 300) = false := decide_eq_false (by omega)
              have hm3 : m ≤ 300 := by omega
              obtain ⟨T, hT'⟩ : ∃ T, (recsT zeroD l).length = T := ⟨_, rfl⟩
              have HTL := Lib.hid hT'
              have hT1 : T ≤ 2000 := by omega
              have HSZ : Hid (Calls Tryd.prog 27 #[.pointer (some ⟨W1.heap.size, 0, none⟩)] wr fun e w' => e = .returned (.tuple #[.int .i64 (T : Int), .int .i64 (sa : Int)]) ∧ Below wr.heap.size wr w') := Lib.hid (by
                have := js_size hja
                rw [show (sL r l sa).bs.length = T from hT'] at this
                exact this)
              have HDR : Hid (∀ W (S : Nat → Prop), Below w.heap.size w W → (∀ i, S i → w.heap.size ≤ i) → RdB W (fun i => i < W.heap.size ∧ ¬ S i) (.slice Ae m ce) d) := Lib.hid fun W S hb hS => (HRD.out.kept fun i x hi h => (hb.cell (p := i) hi).trans h).mono fun i hi => ⟨Nat.lt_of_lt_of_le hi hb.size, fun h => by have := hS i h; omega⟩
              have HLR := Lib.hid hlr
              have HLK := Lib.hid (And.intro hlk hl3)
              have HJ := Lib.hid (And.intro hja hjb)
              have HS := Lib.hid (And.intro hab (And.intro hSa hSb))
              have HBW := Lib.hid hbw
              have HWB : Hid (∀ (S : Nat → Prop) g gd (l0 : List (List UInt8)) sd W, Below w.heap.size w W → JS W S g gd (jL l0) sd → (∀ i, S i → w.heap.size ≤ i) → l0.length ≤ 12 → Calls Tryd.prog 16 #[.pointer (some ⟨g, 0, none⟩), .slice Ae m ce] W fun e w' => e = .returned (.int .i64 (writeJ (jL l0) sd d).2.2) ∧ JOut S g gd (writeJ (jL l0) sd d).1 (writeJ (jL l0) sd d).2.1 W w') := Lib.hid fun S g gd l0 sd W hb hj hS hl => js_write Ae m ce d (HT.out.below hb) hj (by show l0.length < 100000000; omega) (HDR.out W S hb hS)
              have HKN : Hid (k < 12 ∧ l.length ≤ 12) := Lib.hid (by have := HN12.out; omega)
              clear hja hjb hab hSa hSb hlk hl3 hlr hT' hbw
              by_cases hfit : T + 35 + m ≤ r
              · have e5 : decide ((T : Int) + 35 + (m : Int) ≤ (r : Int)) = true := decide_eq_true (by omega)
                obtain ⟨l', hl'⟩ : ∃ l', l ++ [d] = l' := ⟨_, rfl⟩
                have HWF : Hid (writeJ (jL l) (sL r l sa) d = (jL l', sL r l' (recsT zeroD l').length, 0)) := Lib.hid (by rw [← hl']; exact write_yes r l sa d (by have := HDM.out; omega) (by rw [HTL.out, HDM.out]; exact hfit))
                have HWG : Hid (writeJ (jL l) (sL 100000 l sb) d = (jL l', sL 100000 l' (recsT zeroD l').length, 0)) := Lib.hid (by rw [← hl']; exact write_yes 100000 l sb d (by have := HDM.out; omega) (by rw [HTL.out, HDM.out]; omega))
                have HLL : Hid (l'.length ≤ k + 1 ∧ (∀ d ∈ l', d.length ≤ 300) ∧ (recsT zeroD l').length ≤ r) := Lib.hid (by
                  have h1 := HLK.out.1
                  have h2 := HDM.out
                  have h3 := HTL.out
                  rw [← hl']
                  refine ⟨by rw [List.length_append, List.length_singleton]; omega, fun x hx => ?_, by rw [recsT_snoc, List.length_append, recB_length]; omega⟩
                  rcases List.mem_append.1 hx with hx | hx
                  · exact HLK.out.2 x hx
                  · rw [List.mem_singleton.1 hx]
                    omega)
                clear hl'
                go_wp2_with (first
                  | (go_at_call 27; refine HSZ.out.mono ?_; rintro e W6 ⟨rfl, hb6⟩)
                  | (go_at_call 16; guard_target = Calls _ _ #[Value.pointer (some ⟨g1, 0, none⟩), _] _ _; refine (HWB.out Sa g1 W1.heap.size l (sL r l sa) W6 (HBW.out.trans (hb6.mono HBW.out.size)) (HJ.out.1.below hb6) HS.out.2.1 HKN.out.2).mono ?_; rw [HWF.out]; rintro e W7 ⟨rfl, Sa', hj7, ht7, hS7⟩)
                  | (go_at_call 16; guard_target = Calls _ _ #[Value.pointer (some ⟨g2, 0, none⟩), _] _ _; refine (HWB.out Sb g2 W2.heap.size l (sL 100000 l sb) W7 (below_turn (HBW.out.trans (hb6.mono HBW.out.size)) (Nat.le_refl _) ht7 HS.out.2.1) ((HJ.out.2.below hb6).turn ht7 (fun i hb ha => HS.out.1 i ha hb)) HS.out.2.2 HKN.out.2).mono ?_; rw [HWG.out]; rintro e W8 ⟨rfl, Sb', hj8, ht8, hS8⟩))
                have HX7 := Lib.hid (below_turn (HBW.out.trans (hb6.mono HBW.out.size)) (Nat.le_refl _) ht7 HS.out.2.1)
                have HA7 : Hid (∀ i, Sa' i → ¬ Sb i) := Lib.hid fun i h1 h2 => by
                  rcases hS7 i h1 with h | h
                  · exact HS.out.1 i h h2
                  · have := HJ.out.2.lt i h2
                    have := hb6.size
                    omega
                have HJA := Lib.hid (hj7.turn ht8 HA7.out)
                have HJB := Lib.hid hj8
                have HDIS : Hid ((∀ i, Sa' i → ¬ Sb' i) ∧ (∀ i, Sa' i → w.heap.size ≤ i) ∧ (∀ i, Sb' i → w.heap.size ≤ i) ∧ Below w.heap.size w W8) := Lib.hid ⟨fun i h1 h2 => by
                  rcases hS8 i h2 with h | h
                  · exact HA7.out i h1 h
                  · have := hj7.lt i h1
                    omega, fun i h1 => by
                  rcases hS7 i h1 with h | h
                  · exact HS.out.2.1 i h
                  · exact Nat.le_trans (Nat.le_trans HBW.out.size hb6.size) h, fun i h1 => by
                  rcases hS8 i h1 with h | h
                  · exact HS.out.2.2 i h
                  · exact Nat.le_trans HX7.out.size h, below_turn HX7.out (Nat.le_refl _) ht8 HS.out.2.2⟩
                clear hj7 ht7 hS7 hb6 hj8 ht8 hS8
                have hbX : Below W8.heap.size W8 W8 := Below.refl _ _
                have hsm := neq_sameJ (lastT zeroD l')
                go_wp2_with (first
                  | (go_at_call 25; guard_target = Calls _ _ #[Value.pointer (some ⟨g1, 0, none⟩)] _ _; refine (js_lastL (HJA.out.below hbX)).mono ?_; rintro e Wx ⟨rfl, hbx⟩; replace hbX := hbX.trans (hbx.mono hbX.size); clear hbx)
                  | (go_at_call 25; guard_target = Calls _ _ #[Value.pointer (some ⟨g2, 0, none⟩)] _ _; refine (js_lastL (HJB.out.below hbX)).mono ?_; rintro e Wy ⟨rfl, hby⟩; replace hbX := hbX.trans (hby.mono hbX.size); clear hby)
                  | (go_at_call 24; guard_target = Calls _ _ #[Value.pointer (some ⟨g1, 0, none⟩)] _ _; refine (js_lenL (HJA.out.below hbX)).mono ?_; rintro e Wu ⟨rfl, rfl⟩)
                  | (go_at_call 24; guard_target = Calls _ _ #[Value.pointer (some ⟨g2, 0, none⟩)] _ _; refine (js_lenL (HJB.out.below hbX)).mono ?_; rintro e Wv ⟨rfl, rfl⟩))
                go_roundw
                · exact ⟨k + 1, hkn, by go_num, l', _, _, _, _, HJA.out.below hbX, HJB.out.below hbX, HDIS.out.1, HDIS.out.2.1, HDIS.out.2.2.1, HDIS.out.2.2.2.trans (hbX.mono HDIS.out.2.2.2.size), HLL.out.1, HLL.out.2.1, HLL.out.2.2⟩
                · simp [intOf]
                  omega
              · have e5 : decide ((T : Int) + 35 + (m : Int) ≤ (r : Int)) = false := decide_eq_false (by omega)
                have HWF : Hid (writeJ (jL l) (sL r l sa) d = (jL l, sL r l sa, 3)) := Lib.hid (write_full r l sa d (by have := HDM.out; omega) (by have := HLR.out; omega) (by rw [HTL.out, HDM.out]; exact hfit))
                go_wp2_with (first
                  | (go_at_call 27; refine HSZ.out.mono ?_; rintro e W6 ⟨rfl, hb6⟩)
                  | (go_at_call 16; guard_target = Calls _ _ #[Value.pointer (some ⟨g1, 0, none⟩), _] _ _; refine (HWB.out Sa g1 W1.heap.size l (sL r l sa) W6 (HBW.out.trans (hb6.mono HBW.out.size)) (HJ.out.1.below hb6) HS.out.2.1 HKN.out.2).mono ?_; rw [HWF.out]; rintro e W7 ⟨rfl, Sa', hj7, ht7, hS7⟩))
                have HJA := Lib.hid hj7
                have HJB := Lib.hid ((HJ.out.2.below hb6).turn ht7 (fun i hb ha => HS.out.1 i ha hb))
                have HDIS : Hid ((∀ i, Sa' i → ¬ Sb i) ∧ (∀ i, Sa' i → w.heap.size ≤ i) ∧ (∀ i, Sb i → w.heap.size ≤ i) ∧ Below w.heap.size w W7) := Lib.hid ⟨fun i h1 h2 => by
                  rcases hS7 i h1 with h | h
                  · exact HS.out.1 i h h2
                  · have := HJ.out.2.lt i h2
                    have := hb6.size
                    omega, fun i h1 => by
                  rcases hS7 i h1 with h | h
                  · exact HS.out.2.1 i h
                  · exact Nat.le_trans (Nat.le_trans HBW.out.size hb6.size) h, HS.out.2.2, below_turn (HBW.out.trans (hb6.mono HBW.out.size)) (Nat.le_refl _) ht7 HS.out.2.1⟩
                have HLL : Hid (l.length ≤ k + 1 ∧ (∀ d ∈ l, d.length ≤ 300) ∧ (recsT zeroD l).length ≤ r) := Lib.hid ⟨Nat.le_succ_of_le HLK.out.1, HLK.out.2, HLR.out⟩
                clear hj7 ht7 hS7 hb6
                have hbX : Below W7.heap.size W7 W7 := Below.refl _ _
                have hsm := neq_sameJ (lastT zeroD l)
                go_wp2_with (first
                  | (go_at_call 25; guard_target = Calls _ _ #[Value.pointer (some ⟨g1, 0, none⟩)] _ _; refine (js_lastL (HJA.out.below hbX)).mono ?_; rintro e Wx ⟨rfl, hbx⟩; replace hbX := hbX.trans (hbx.mono hbX.size); clear hbx)
                  | (go_at_call 25; guard_target = Calls _ _ #[Value.pointer (some ⟨g2, 0, none⟩)] _ _; refine (js_lastL (HJB.out.below hbX)).mono ?_; rintro e Wy ⟨rfl, hby⟩; replace hbX := hbX.trans (hby.mono hbX.size); clear hby)
                  | (go_at_call 24; guard_target = Calls _ _ #[Value.pointer (some ⟨g1, 0, none⟩)] _ _; refine (js_lenL (HJA.out.below hbX)).mono ?_; rintro e Wu ⟨rfl, rfl⟩)
                  | (go_at_call 24; guard_target = Calls _ _ #[Value.pointer (some ⟨g2, 0, none⟩)] _ _; refine (js_lenL (HJB.out.below hbX)).mono ?_; rintro e Wv ⟨rfl, rfl⟩))
                go_roundw
                · exact ⟨k + 1, hkn, by go_num, l, _, _, _, _, HJA.out.below hbX, HJB.out.below hbX, HDIS.out.1, HDIS.out.2.1, HDIS.out.2.2.1, HDIS.out.2.2.2.trans (hbX.mono HDIS.out.2.2.2.size), HLL.out.1, HLL.out.2.1, HLL.out.2.2⟩
                · simp [intOf]
                  omega
          · obtain rfl : k = n := by omega
            have hmk : ∀ w', (Instr.makeSlice 42 (.int .i64 262145) (.int .i64 262145)).run Tryd.prog w' = .ok (.slice (some ⟨w'.heap.size, 0, none⟩) 262145 262145) (w'.alloc (.cells (arr 262145 fun _ => bv 0) 5)) := fun w' => by
              have h := run_make_bytes 262145 (by omega) w'
              rw [Int.cast_ofNat_Int] at h
              exact h
            have HJB := Lib.hid hjb
            have HSB := Lib.hid hSb
            have HLK := Lib.hid hlk
            clear hja hjb hab hSa hSb hlk hl3 hlr
            go_wp2_with fail
            generalize hW : World.alloc wr _ = W9
            have hb9 : Below wr.heap.size wr W9 := by rw [← hW]; exact (Below.refl _ _).alloc (Nat.le_refl _) _
            have k9 : Blk W9 wr.heap.size 5 (arr 262145 fun _ => bv 0) := by rw [← hW]; exact Blk.newAt _ _ rfl rfl
            have hrl : RdB W9 (fun i => i < W9.heap.size ∧ ¬ Sb i) (.slice (some ⟨wr.heap.size, 0, none⟩) 262145 262145) (List.replicate 262145 0) := rdB_blk k9 (fun i hi => by rw [List.getD_eq_getElem?_getD, List.getElem?_replicate, if_pos hi]; rfl) List.length_replicate (Nat.le_refl _) (Nat.le_refl _) (by omega) ⟨k9.lt, fun h => by have := HJB.out.lt _ h; omega⟩
            have HWL := Lib.hid (js_write (some ⟨wr.heap.size, 0, none⟩) 262145 262145 (List.replicate 262145 0) (HT.out.below (hbw.trans (hb9.mono hbw.size))) (HJB.out.below hb9) (by show l.length < 100000000; have := HLK.out; have := HN12.out; omega) hrl)
            rw [write_long (jL l) (sL 100000 l sb) (List.replicate 262145 0) rfl (by rw [List.length_replicate]; omega)] at HWL
            have HB9 := Lib.hid (hbw.trans (hb9.mono hbw.size))
            clear hW k9 hrl hb9 hbw hmk
            refine HWL.out.mono ?_
            rintro e W10 ⟨rfl, S', hj', ht', hS'⟩
            have HB10 := Lib.hid (below_turn HB9.out (Nat.le_refl _) ht' HSB.out)
            clear hj' ht' hS'
            dsimp only
            go_wp2_with fail
            go_ret
            exact ⟨rfl, HB10.out⟩
end Go.Proofs.YtbfapabjglipoaaDoor
