/-
  The reference's Peaks: for every size of not more than 2^40, in whatever memory. No condition.
-/
import Derived.Test.YtkkanaefngggoaaDoorTreeRefR
import Derived.Test.YtkkanaefngggoaaDoorTreePart
namespace Go.Proofs.YtkkanaefngggoaaDoor
open Go Go.RowKit Go.Shelf TreeM

theorem info_int : (Tryd.prog.info? 3).map (fun i => (i.zero, i.size, i.bytes)) = some (some (.int .i64 0), 1, 8) := by kernel_rfl
/-- An append of one number. -/
theorem app_int {B : Nat} {w : World} (hB : B ≤ w.heap.size) {v : Value} {n : Nat} {xs : List Value} (hown : w.ownsRow B 3 1 v n xs) (x : Int) {g0 : Nat} (hg0 : Blk w g0 3 #[.int .i64 x]) (hn : n ≤ 100000000) :
    ∃ g cap w', (Builtin.append_ #[39, 39] 39 #[v, .slice (some ⟨g0, 0, none⟩) 1 1]).run Tryd.prog w = .ok (.slice (some ⟨g, 0, none⟩) (n + 1) cap) w' ∧
      w'.ownsRow B 3 1 (.slice (some ⟨g, 0, none⟩) (n + 1) cap) (n + 1) (xs ++ [.int .i64 x]) ∧ w.grownBy w' v.ownBlock ∧ (v.ownBlock = some g ∨ g = w.heap.size) := by
  obtain ⟨i0, hi, hz0, hz1, hz2⟩ := info_parts info_int
  obtain ⟨v', w', hrun, hown', hgr, _, hbl⟩ := run_append_own_at (P := Tryd.prog) w B 39 39 3 i0 (.int .i64 0) 1 8 Tryd.underlying39 hi hz0 hz1 hz2 rfl (by omega) v n xs hown ⟨g0, 0, none⟩ 1 1 [.int .i64 x] rfl
    (fun j u hu => by
      rcases j with _ | j
      · cases hu
        rw [add_zero_block, hg0.cell]; rfl
      · simp at hu) (fun u hu => by
      simp only [List.mem_singleton] at hu
      subst hu
      rfl) (by unfold maxLen; omega) (by omega) hB
  rcases ownsRow_forms' hown' with ⟨_, h0⟩ | ⟨g, cap, rfl⟩
  · omega
  · refine ⟨g, cap, w', hrun, hown', hgr, ?_⟩
    rcases hbl with h | h
    · exact .inl h.symm
    · simp only [Value.ownBlock, Option.some.injEq] at h
      exact .inr h
def iv (l : List Nat) : List Value := l.map fun (n : Nat) => .int .i64 (n : Int)
theorem iv_append (a b : List Nat) : iv (a ++ b) = iv a ++ iv b := by simp [iv]
/-- Two rows of the call's own, a number more in each. -/
theorem app_two {B m : Nat} {w wr : World} {a c : Value} {xs ys : List Value} (hB : B ≤ wr.heap.size) (ha : wr.ownsRow B 3 1 a m xs) (hc : wr.ownsRow B 3 1 c m ys) (hd : ∀ i, a.ownBlock = some i → c.ownBlock = some i → False) (hb : Below w.heap.size w wr) (hw : B = w.heap.size) (hm : m ≤ 1000) (x y : Int) :
    ∃ g cap W6 g' cap' W8, (Builtin.append_ #[39, 39] 39 #[a, .slice (some ⟨wr.heap.size, 0, none⟩) 1 1]).run Tryd.prog (wr.alloc (.cells #[.int .i64 x] 3)) = .ok (.slice (some ⟨g, 0, none⟩) (m + 1) cap) W6 ∧
      (Builtin.append_ #[39, 39] 39 #[c, .slice (some ⟨W6.heap.size, 0, none⟩) 1 1]).run Tryd.prog (W6.alloc (.cells #[.int .i64 y] 3)) = .ok (.slice (some ⟨g', 0, none⟩) (m + 1) cap') W8 ∧
      W8.ownsRow B 3 1 (.slice (some ⟨g, 0, none⟩) (m + 1) cap) (m + 1) (xs ++ [.int .i64 x]) ∧ W8.ownsRow B 3 1 (.slice (some ⟨g', 0, none⟩) (m + 1) cap') (m + 1) (ys ++ [.int .i64 y]) ∧ g ≠ g' ∧ Below w.heap.size w W8 := by
  have h1 : Below wr.heap.size wr (wr.alloc (.cells #[.int .i64 x] 3)) := (Below.refl _ _).alloc (Nat.le_refl _) _
  have ka := Turn.own (Turn.of_below h1) ha (fun i hi => by have := (ha.lt i hi).2; omega)
  have kc := Turn.own (Turn.of_below h1) hc (fun i hi => by have := (hc.lt i hi).2; omega)
  obtain ⟨g, cap, W6, r1, o1, gr1, bl1⟩ := app_int (Nat.le_trans hB h1.size) ka x (Blk.new _ _ _) (by omega)
  have t1 : Turn (fun i => a.ownBlock = some i) (wr.alloc (.cells #[.int .i64 x] 3)) W6 := (Turn.refl _ _).grown gr1 (fun i hi _ => hi)
  have kc6 := t1.own kc (fun i hi he => hd i he hi)
  have h2 : Below W6.heap.size W6 (W6.alloc (.cells #[.int .i64 y] 3)) := (Below.refl _ _).alloc (Nat.le_refl _) _
  have kc7 := Turn.own (Turn.of_below h2) kc6 (fun i hi => by have := (kc6.lt i hi).2; omega)
  have hB6 : B ≤ W6.heap.size := Nat.le_trans (Nat.le_trans hB h1.size) gr1.size
  obtain ⟨g', cap', W8, r2, o2, gr2, bl2⟩ := app_int (Nat.le_trans hB6 h2.size) kc7 y (Blk.new _ _ _) (by omega)
  have hg6 := (o1.lt g rfl)
  have hne : ∀ i, c.ownBlock = some i → i ≠ g := by
    rintro i hi rfl
    rcases bl1 with h | h
    · exact hd i h hi
    · have := (hc.lt i hi).2
      have := h1.size
      omega
  have o17 := Turn.own (Turn.of_below h2) o1 (fun i hi => by simp only [Value.ownBlock, Option.some.injEq] at hi; omega)
  have t2 : Turn (fun i => c.ownBlock = some i) (W6.alloc (.cells #[.int .i64 y] 3)) W8 := (Turn.refl _ _).grown gr2 (fun i hi _ => hi)
  have o18 := t2.own o17 (fun i hi he => by simp only [Value.ownBlock, Option.some.injEq] at hi; exact hne i he hi.symm)
  have hT : Turn (fun i => B ≤ i) w W8 := by
    have q0 : Turn (fun i => B ≤ i) w wr := (Turn.of_below hb).mono (fun i _ hi => by omega)
    have q1 := q0.alloc (.cells #[.int .i64 x] 3)
    have q2 := q1.grown gr1 (fun i hi _ => (ha.lt i hi).1)
    have q3 := q2.alloc (.cells #[.int .i64 y] 3)
    exact q3.grown gr2 (fun i hi _ => (hc.lt i hi).1)
  refine ⟨g, cap, W6, g', cap', W8, r1, r2, o18, o2, ?_, hT.below (by omega) (fun i hi => by omega)⟩
  rcases bl2 with h | h
  · exact fun e => hne g' h e.symm
  · have : W6.heap.size ≤ g' := by rw [h]; exact h2.size
    omega
/-- What holds at the head of a round: so much has been gone through. -/
def PkR (w : World) (n : Nat) (a c f : Value) (wr : World) : Prop :=
  ∃ (P : List (Nat × Nat)) (q : Nat), f = .int .i64 (q : Int) ∧ q ≤ n ∧ P ++ pk q (n - q) = pk 0 n ∧ wr.ownsRow w.heap.size 3 1 a P.length (iv (P.map (·.1))) ∧ wr.ownsRow w.heap.size 3 1 c P.length (iv (P.map (·.2))) ∧ (∀ i, a.ownBlock = some i → c.ownBlock = some i → False) ∧ Below w.heap.size w wr
set_option maxRecDepth 100000 in
set_option maxHeartbeats 1000000 in
theorem refPeaks_any (n : Nat) (hn : n ≤ 1099511627776) (w : World) : Calls Tryd.prog 28 #[.int .i64 (n : Int)] w fun e w' => ∃ a c, e = .returned (.tuple #[a, c]) ∧
    w'.ownsRow w.heap.size 3 1 a (pk 0 n).length (iv ((pk 0 n).map (·.1))) ∧ w'.ownsRow w.heap.size 3 1 c (pk 0 n).length (iv ((pk 0 n).map (·.2))) ∧ Below w.heap.size w w' := by
  go_enter Tryd.func28, Tryd.ntmps28
  go_wp2
  go_loopw [4, 5, 6] (fun a c f wr => PkR w n a c f wr) (fun _ _ f _ => n - (intOf f).toNat)
  case atStart => exact ⟨[], 0, rfl, Nat.zero_le _, by rw [List.nil_append, Nat.sub_zero], World.ownsRow_nil _ _ _ _, World.ownsRow_nil _ _ _ _, fun i h _ => by simp [Value.ownBlock] at h, Below.refl _ _⟩
  case round =>
    obtain ⟨P, q, rfl, hq, hP, ha, hc, hd, hb⟩ := hrel
    by_cases hlt : q < n
    · have hqn : (q : Int) < (n : Int) := by omega
      have hq1 : (q : Int) ≤ 1099511627776 := by omega
      have hn1 : (n : Int) ≤ 1099511627776 := by omega
      have HP := Lib.hid hP
      have HA := Lib.hid ha
      have HC := Lib.hid hc
      have HD := Lib.hid hd
      have HB := Lib.hid hb
      clear hP ha hc hd hb
      go_wp2
      go_loopw [7] (fun k wr' => ∃ j : Nat, k = .int .i64 ((2 ^ j : Nat) : Int) ∧ 2 ^ j ≤ n - q ∧ wr' = wr) (fun k _ => n - (intOf k).toNat)
      case atStart => exact ⟨0, rfl, by simp; omega, rfl⟩
      case round =>
        obtain ⟨j, rfl, hj, rfl⟩ := hrel
        have hpos := Nat.two_pow_pos j
        have hsucc : 2 ^ (j + 1) = 2 ^ j * 2 := Nat.pow_succ ..
        obtain ⟨p, hp⟩ : ∃ p, 2 ^ j = p := ⟨_, rfl⟩
        have HPP := Lib.hid hp
        have HS := Lib.hid hsucc
        rw [hp] at hj hpos ⊢
        clear hp hsucc
        have hp1 : (p : Int) ≤ 1099511627776 := by omega
        have hp0 : (0 : Int) < (p : Int) := by omega
        by_cases hl : p * 2 ≤ n - q
        · have hl2 : (p : Int) * 2 ≤ (n : Int) - (q : Int) := by omega
          go_wp2
          go_roundw
          case rel => exact ⟨j + 1, by rw [HS.out, HPP.out]; go_num, by rw [HS.out, HPP.out]; omega, by first | rfl | trivial⟩
          case measure => simp [intOf]; omega
        · have hl2 : ¬ ((p : Int) * 2 ≤ (n : Int) - (q : Int)) := by omega
          have he : top2 (n - q) = p := by
            rw [← HPP.out]
            exact top2_eq (by rw [HPP.out]; omega) (by rw [HPP.out]; omega)
          have hpl : P.length ≤ 64 := by
            have h1 := congrArg List.length HP.out
            rw [List.length_append, pk_length] at h1
            have := pop_le 41 n (by omega)
            omega
          obtain ⟨A1, c1, rfl, _⟩ := own_len HA.out
          obtain ⟨A2, c2, rfl, _⟩ := own_len HC.out
          obtain ⟨g, cap, W6, g', cap', W8, r1, r2, o1, o2, hne, hb8⟩ := app_two (HB.out.size) HA.out HC.out HD.out HB.out rfl (by omega) (q : Int) (p : Int)
          have HE : Hid (PkR w n (.slice (some ⟨g, 0, none⟩) (P.length + 1) cap) (.slice (some ⟨g', 0, none⟩) (P.length + 1) cap') (.int .i64 ((q : Int) + (p : Int))) W8) := Lib.hid ⟨P ++ [(q, p)], q + p, by go_num, by omega, by
              rw [List.append_assoc, ← HP.out, pk_cons q (show n - q ≠ 0 by omega), he, show n - (q + p) = n - q - p from by omega]; rfl, by
              rw [List.map_append, iv_append, List.length_append]; exact o1, by
              rw [List.map_append, iv_append, List.length_append]; exact o2, fun i h1 h2 => by
              simp only [Value.ownBlock, Option.some.injEq] at h1 h2
              omega, hb8⟩
          have R1 := Lib.hid r1
          have R2 := Lib.hid r2
          clear r1 r2 o1 o2 hne hb8
          generalize P.length = m at *
          go_wp2_with (first
            | (at_builtin; refine wpList_append_run rfl (.tmp 19) (.tmp 21) _ _ rfl _ _ rfl rfl _ _ R1.out ?_)
            | (at_builtin; refine wpList_append_run rfl (.tmp 23) (.tmp 25) _ _ rfl _ _ rfl rfl _ _ R2.out ?_))
          go_roundw
          case rel => exact HE.out
          case measure => simp [intOf]; omega
    · obtain rfl : q = n := by omega
      rw [Nat.sub_self, pk_zero, List.append_nil] at hP
      subst hP
      have HE := Lib.hid (And.intro ha (And.intro hc hb))
      clear ha hc hb hd
      go_wp2
      go_ret2
      exact ⟨_, _, rfl, HE.out⟩
end Go.Proofs.YtkkanaefngggoaaDoor
