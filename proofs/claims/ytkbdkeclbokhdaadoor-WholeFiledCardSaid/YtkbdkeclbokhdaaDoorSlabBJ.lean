/-
  The slab's functions, the rest of them: Sync, Cut, Crash, Spoil, Break, Size, Bytes, New. No condition.
-/
import Derived.Test.YtkbdkeclbokhdaaDoorSlabJ
namespace Go.Proofs.YtkbdkeclbokhdaaDoor
open Go Go.RowKit Go.Shelf

theorem step_at {Z : Nat → Prop} {g : Nat} {s : SlabS} {w : World} (h : SlabAt w Z g s) (h0 : s.pow ≠ 0) :
    Calls Tryd.prog 46 #[.pointer (some ⟨g, 0, none⟩)] w fun e w' => e = .returned (.bool true) ∧ SlabAt w' Z g { s with pow := decP s.pow } ∧ Turn Z w w' := by
  obtain ⟨v, hb, ho, hZ, hvZ, hlt, hs⟩ := h
  refine (step_yes g _ _ _ _ h0 hs.hi w hb).mono ?_
  rintro e w' ⟨rfl, hb', ht⟩
  have hp := decP_in hs.lo hs.hi
  exact ⟨rfl, ⟨v, hb', ht.own ho (fun i hi => own_ne hb ho i hi), hZ, hvZ, fun i hi => Nat.lt_of_lt_of_le (hlt i hi) ht.size, ⟨hs.fits, hs.room, hs.sure, hp.1, hp.2⟩⟩, turn_g ht hZ⟩
theorem step_none {Z : Nat → Prop} {g : Nat} {s : SlabS} {w : World} (h : SlabAt w Z g s) (h0 : s.pow = 0) :
    Calls Tryd.prog 46 #[.pointer (some ⟨g, 0, none⟩)] w fun e w' => e = .returned (.bool false) ∧ w = w' := by
  obtain ⟨v, hb, _⟩ := h
  rw [h0] at hb
  exact step_no g _ _ _ w hb
/-- A store of a number into a slab. -/
theorem slab_sure {Z : Nat → Prop} {g : Nat} {s : SlabS} {w : World} (h : SlabAt w Z g s) (k : Nat) (hk : k ≤ s.bs.length) : SlabAt (w.setCell ⟨g, 2, none⟩ (.int .i64 (k : Int))) Z g { s with sure := k } := by
  obtain ⟨v, hb, ho, hZ, hvZ, hlt, hs⟩ := h
  exact ⟨v, hb.store 2 (.int .i64 (k : Int)), ((Turn.refl (fun i => i = g) w).setCell (p := ⟨g, 2, none⟩) (fun _ => rfl) _).own ho (fun i hi => own_ne hb ho i hi), hZ, hvZ, fun i hi => by simpa [World.setCell] using hlt i hi, ⟨hs.fits, hs.room, hk, hs.lo, hs.hi⟩⟩
theorem slab_pow {Z : Nat → Prop} {g : Nat} {s : SlabS} {w : World} (h : SlabAt w Z g s) (p : Int) (h1 : -9223372036854775808 ≤ p) (h2 : p ≤ 9223372036854775807) : SlabAt (w.setCell ⟨g, 3, none⟩ (.int .i64 p)) Z g { s with pow := p } := by
  obtain ⟨v, hb, ho, hZ, hvZ, hlt, hs⟩ := h
  exact ⟨v, hb.store 3 (.int .i64 p), ((Turn.refl (fun i => i = g) w).setCell (p := ⟨g, 3, none⟩) (fun _ => rfl) _).own ho (fun i hi => own_ne hb ho i hi), hZ, hvZ, fun i hi => by simpa [World.setCell] using hlt i hi, ⟨hs.fits, hs.room, hs.sure, h1, h2⟩⟩
theorem slab_set {Z : Nat → Prop} {g : Nat} {s : SlabS} {w : World} (h : SlabAt w Z g s) (j : Nat) (x : Value) : Turn Z w (w.setCell ⟨g, j, none⟩ x) := by
  obtain ⟨v, hb, ho, hZ, _⟩ := h
  exact (Turn.refl Z w).setCell (fun _ => hZ) _
theorem slab_drewN {Z : Nat → Prop} {g : Nat} {s : SlabS} {w : World} (h : SlabAt w Z g s) (n : Nat) : SlabAt (w.drewN n) Z g s := h
theorem left_of {Z : Nat → Prop} {g : Nat} {s : SlabS} {w w' : World} (h : SlabAt w' Z g s) (ht : Turn Z w w') : Left Z g s w w' := ⟨Z, h, ht, fun _ hi => .inl hi⟩
/-- What the walk reads of a slab. -/
theorem slab_open {Z : Nat → Prop} {g : Nat} {s : SlabS} {w : World} (h : SlabAt w Z g s) : ∃ A c, s.bs.length ≤ c ∧ w.cell? ⟨g, 0, none⟩ = some (.int .i64 (s.room : Int)) ∧ w.cell? ⟨g, 1, none⟩ = some (.slice A s.bs.length c) ∧ w.cell? ⟨g, 2, none⟩ = some (.int .i64 (s.sure : Int)) ∧ w.cell? ⟨g, 3, none⟩ = some (.int .i64 s.pow) ∧
    w.frozen? ⟨g, 1, none⟩ = false ∧ w.frozen? ⟨g, 2, none⟩ = false ∧ w.frozen? ⟨g, 3, none⟩ = false ∧ RdB w Z (.slice A s.bs.length c) s.bs ∧ s.bs.length ≤ 4194304 ∧ s.sure ≤ s.bs.length ∧ g < w.heap.size := by
  obtain ⟨v, hb, ho, hZ, hvZ, hlt, hs⟩ := h
  obtain ⟨A, c, rfl, hc⟩ := own_len ho
  obtain ⟨c0, c1, c2, c3, f1, f2, f3⟩ := slab_cells hb
  have h1 := hs.fits
  have h2 := hs.room
  exact ⟨A, c, hc, c0, c1, c2, c3, f1, f2, f3, (own_read ho (by omega)).mono (fun b hb => hvZ b hb.1), by omega, hs.sure, hb.lt⟩

set_option maxRecDepth 100000 in
set_option maxHeartbeats 1000000 in
theorem slabBreak_any (Z : Nat → Prop) (g : Nat) (s : SlabS) (n : Int) (h1 : -9223372036854775808 ≤ n) (h2 : n ≤ 9223372036854775807) (w : World) (h : SlabAt w Z g s) :
    Calls Tryd.prog 17 #[.pointer (some ⟨g, 0, none⟩), .int .i64 n] w fun e w' => e = .returned (.tuple #[]) ∧ Left Z g (s.brk n) w w' := by
  obtain ⟨A, c, hc, c0, c1, c2, c3, f1, f2, f3, hrd, hl, hsu, hg⟩ := slab_open h
  have HS := Lib.hid h
  clear h hrd
  go_enter Tryd.func17, Tryd.ntmps17
  go_wp2
  go_end0
  exact ⟨rfl, left_of (slab_pow HS.out n h1 h2) (slab_set HS.out 3 _)⟩
set_option maxRecDepth 100000 in
set_option maxHeartbeats 1000000 in
theorem slabSize_any (Z : Nat → Prop) (g : Nat) (s : SlabS) (w : World) (h : SlabAt w Z g s) :
    Calls Tryd.prog 27 #[.pointer (some ⟨g, 0, none⟩)] w fun e w' => e = .returned (.tuple #[.int .i64 (s.bs.length : Int), .int .i64 (s.sure : Int)]) ∧ Below w.heap.size w w' := by
  obtain ⟨A, c, hc, c0, c1, c2, c3, f1, f2, f3, hrd, hl, hsu, hg⟩ := slab_open h
  clear h hrd
  go_enter Tryd.func27, Tryd.ntmps27
  go_wp2
  go_quiet (fail)
  go_wp2
  go_ret2
  exact ⟨rfl, ⟨rfl, rfl, rfl, Nat.le_refl _, fun _ _ => rfl⟩⟩
set_option maxRecDepth 100000 in
set_option maxHeartbeats 1000000 in
theorem slabBytes_any (Z : Nat → Prop) (g : Nat) (s : SlabS) (w : World) (h : SlabAt w Z g s) :
    Calls Tryd.prog 23 #[.pointer (some ⟨g, 0, none⟩)] w fun e w' => ∃ A' c', e = .returned (.slice A' s.bs.length c') ∧ w'.ownsRow w.heap.size 5 1 (.slice A' s.bs.length c') s.bs.length (s.bs.map bv) ∧ Below w.heap.size w w' := by
  obtain ⟨A, c, hc, c0, c1, c2, c3, f1, f2, f3, hrd, hl, hsu, hg⟩ := slab_open h
  have hlt : ∀ i, Z i → i < w.heap.size := by obtain ⟨_, _, _, _, _, hlt, _⟩ := h; exact hlt
  have HC := Lib.hid (clone_any A c s.bs w (hrd.mono hlt))
  clear h hrd hlt
  go_enter Tryd.func23, Tryd.ntmps23
  go_wp2_with (go_at_call 45; refine HC.out.mono ?_; rintro e w1 ⟨A', c', rfl, hr1, ho1, hb1⟩; have HO := Lib.hid ho1; clear hr1 ho1)
  go_ret
  exact ⟨A', c', rfl, HO.out, hb1⟩
theorem slab_built (n : Nat) : (Tryd.prog.built 76 [(0, .int .i64 (n : Int)), (3, .int .i64 (-1))]).getD #[] = #[.int .i64 (n : Int), .slice none 0 0, .int .i64 0, .int .i64 (-1)] := by kernel_rfl
set_option maxRecDepth 100000 in
set_option maxHeartbeats 1000000 in
theorem slabNew_any (n : Nat) (hn : n ≤ 4194304) (w : World) :
    Calls Tryd.prog 11 #[.int .i64 (n : Int)] w fun e w' => e = .returned (.tuple #[.pointer (some ⟨w.heap.size, 0, none⟩), .int .i64 0]) ∧ SlabAt w' (fun i => i = w.heap.size) w.heap.size ⟨n, [], 0, -1⟩ ∧ Below w.heap.size w w' := by
  have hb := slab_built n
  go_enter Tryd.func11, Tryd.ntmps11
  go_wp2
  go_ret2
  refine ⟨rfl, ⟨.slice none 0 0, ?_, World.ownsRow_nil _ _ _ _, rfl, (fun i hi => by cases hi), (fun i hi => by rw [hi]; simp), ⟨Nat.zero_le _, hn, Nat.le_refl _, (by simp), (by simp)⟩⟩, (Below.refl _ _).alloc (Nat.le_refl _) _⟩
  exact Blk.new _ _ _
/-- The first bytes of a slab, in its cells. -/
theorem slab_cut {Z : Nat → Prop} {g : Nat} {s : SlabS} {w : World} (h : SlabAt w Z g s) {A : Option Addr} {n c : Nat} (hc : w.cell? ⟨g, 1, none⟩ = some (.slice A n c)) (k : Nat) (hk : k ≤ s.bs.length) :
    SlabAt ((w.setCell ⟨g, 1, none⟩ (.slice A k c)).setCell ⟨g, 2, none⟩ (.int .i64 ((min s.sure k : Nat) : Int))) Z g { s with bs := s.bs.take k, sure := min s.sure k } := by
  obtain ⟨v, hb, ho, hZ, hvZ, hlt, hs⟩ := h
  obtain ⟨A', c', rfl, _⟩ := own_len ho
  have hv := (slab_cells hb).2.1
  rw [hc] at hv
  injection hv with hv
  injection hv with e1 e2 e3
  subst e1; subst e2; subst e3
  have ho2 := own_cut ho hk
  have hm : ((s.bs.map bv).take k) = (s.bs.take k).map bv := by rw [List.map_take]
  have hl : (s.bs.take k).length = k := by rw [List.length_take]; omega
  rw [hm] at ho2
  have ht : Turn (fun i => i = g) w ((w.setCell ⟨g, 1, none⟩ (.slice A k c)).setCell ⟨g, 2, none⟩ (.int .i64 ((min s.sure k : Nat) : Int))) :=
    ((Turn.refl (fun i => i = g) w).setCell (p := ⟨g, 1, none⟩) (fun _ => rfl) _).setCell (p := ⟨g, 2, none⟩) (fun _ => rfl) _
  refine ⟨.slice A k c, (hb.store 1 (.slice A k c)).store 2 (.int .i64 ((min s.sure k : Nat) : Int)), by rw [hl]; exact ht.own ho2 (fun i hi => own_ne hb ho i (by cases A <;> exact hi)), hZ, (fun i hi => hvZ i (by cases A <;> exact hi)), (fun i hi => by simpa [World.setCell] using hlt i hi), ⟨?_, hs.room, ?_, hs.lo, hs.hi⟩⟩
  · show (s.bs.take k).length ≤ s.room
    have := hs.fits
    omega
  · show min s.sure k ≤ (s.bs.take k).length
    rw [hl]; omega
set_option maxRecDepth 100000 in
set_option maxHeartbeats 1000000 in
theorem slabShorten_any (Z : Nat → Prop) (g : Nat) (s : SlabS) (k : Nat) (hk : k ≤ s.bs.length) (w : World) (h : SlabAt w Z g s) :
    Calls Tryd.prog 44 #[.pointer (some ⟨g, 0, none⟩), .int .i64 (k : Int)] w fun e w' => e = .returned (.tuple #[]) ∧ SlabAt w' Z g { s with bs := s.bs.take k, sure := min s.sure k } ∧ Turn Z w w' := by
  obtain ⟨A, c, hc, c0, c1, c2, c3, f1, f2, f3, hrd, hl, hsu, hg⟩ := slab_open h
  have HS := Lib.hid (slab_cut h c1 k hk)
  have HT := Lib.hid (((slab_set h 1 (.slice A k c))).setCell (p := ⟨g, 2, none⟩) (fun _ => by obtain ⟨_, _, _, hZ, _⟩ := h; exact hZ) (.int .i64 ((min s.sure k : Nat) : Int)))
  have hsl := run_slice_to (P := Tryd.prog) 42 5 Tryd.underlying42 (by kernel_rfl) A s.bs.length c k (by omega)
  have hkc : (k : Int) ≤ (c : Int) := by omega
  clear h hrd
  rcases Nat.le_total s.sure k with h1 | h1
  · have e1 : min s.sure k = s.sure := by omega
    have h1' : (s.sure : Int) ≤ (k : Int) := by omega
    have hmn : min (s.sure : Int) (k : Int) = (s.sure : Int) := by omega
    rw [e1] at HS HT
    have HE := Lib.hid e1
    clear e1
    go_enter Tryd.func44, Tryd.ntmps44
    go_wp2
    go_end0
    first | rw [HE.out] | skip
    exact ⟨rfl, HS.out, HT.out⟩
  · have e1 : min s.sure k = k := by omega
    have h1' : (k : Int) ≤ (s.sure : Int) := by omega
    rw [e1] at HS HT
    have HE := Lib.hid e1
    clear e1
    rcases Nat.lt_or_ge k s.sure with h2 | h2
    · have h2' : ¬ (s.sure : Int) ≤ (k : Int) := by omega
      have h3' : (k : Int) < (s.sure : Int) := by omega
      have hmn : min (s.sure : Int) (k : Int) = (k : Int) := by omega
      go_enter Tryd.func44, Tryd.ntmps44
      go_wp2
      go_end0
      first | rw [HE.out] | skip
      exact ⟨rfl, HS.out, HT.out⟩
    · obtain rfl : k = s.sure := by omega
      have hmn : min (s.sure : Int) (s.sure : Int) = (s.sure : Int) := by omega
      go_enter Tryd.func44, Tryd.ntmps44
      go_wp2
      go_end0
      first | rw [HE.out] | skip
      exact ⟨rfl, HS.out, HT.out⟩
set_option maxRecDepth 100000 in
set_option maxHeartbeats 1000000 in
theorem slabSync_any (Z : Nat → Prop) (g : Nat) (s : SlabS) (w : World) (h : SlabAt w Z g s) :
    Calls Tryd.prog 59 #[.pointer (some ⟨g, 0, none⟩)] w fun e w' => e = .returned (.int .i64 s.sync.2) ∧ Left Z g s.sync.1 w w' := by
  have HS := Lib.hid h
  by_cases h0 : s.pow = 0
  · have HE : Hid (s.sync = (s, 90)) := Lib.hid (by unfold SlabS.sync; rw [if_pos h0])
    have H0 := Lib.hid h0
    clear h h0
    rw [HE.out]
    go_enter Tryd.func59, Tryd.ntmps59
    go_wp2_with (go_at_call 46; refine (step_none HS.out H0.out).mono ?_; rintro e w1 ⟨rfl, rfl⟩)
    go_ret
    exact ⟨rfl, left_of HS.out (Turn.refl _ _)⟩
  · have HE : Hid (s.sync = ({ s with sure := s.bs.length, pow := decP s.pow }, 0)) := Lib.hid (by unfold SlabS.sync; rw [if_neg h0])
    have H0 := Lib.hid h0
    clear h h0
    rw [HE.out]
    go_enter Tryd.func59, Tryd.ntmps59
    go_wp2_with (go_at_call 46; refine (step_at HS.out H0.out).mono ?_; rintro e w1 ⟨rfl, h1, ht1⟩; obtain ⟨A, c, hc, c0, c1, c2, c3, f1, f2, f3, hrd, hl, hsu, hg⟩ := slab_open h1; have H1 := Lib.hid h1; clear h1 hrd)
    go_ret
    exact ⟨rfl, left_of (slab_sure H1.out s.bs.length (Nat.le_refl _)) (ht1.trans (slab_set H1.out 2 _) fun i _ hi => hi)⟩
set_option maxHeartbeats 2000000 in
theorem slabCut_any (Z : Nat → Prop) (g : Nat) (s : SlabS) (k : Int) (w : World) (h : SlabAt w Z g s) :
    Calls Tryd.prog 55 #[.pointer (some ⟨g, 0, none⟩), .int .i64 k] w fun e w' => e = .returned (.int .i64 (s.cut k).2) ∧ Left Z g (s.cut k).1 w w' := by
  obtain ⟨A, c, hc, c0, c1, c2, c3, f1, f2, f3, hrd, hl, hsu, hg⟩ := slab_open h
  have HS := Lib.hid h
  clear h hrd
  by_cases hk : k < 0
  · have HE : Hid (s.cut k = (s, 1)) := Lib.hid (by unfold SlabS.cut; rw [if_pos (.inl hk)])
    have d0 : decide (k < 0) = true := decide_eq_true hk
    rw [HE.out]
    go_enter Tryd.func55, Tryd.ntmps55
    go_wp2
    go_ret
    exact ⟨rfl, left_of HS.out (Turn.refl _ _)⟩
  · have d0 : decide (k < 0) = false := decide_eq_false hk
    by_cases hk2 : (s.bs.length : Int) < k
    · have HE : Hid (s.cut k = (s, 1)) := Lib.hid (by unfold SlabS.cut; rw [if_pos (.inr hk2)])
      have d1 : decide ((s.bs.length : Int) < k) = true := decide_eq_true hk2
      rw [HE.out]
      go_enter Tryd.func55, Tryd.ntmps55
      go_wp2
      go_ret
      exact ⟨rfl, left_of HS.out (Turn.refl _ _)⟩
    · have d1 : decide ((s.bs.length : Int) < k) = false := decide_eq_false hk2
      obtain ⟨n, rfl⟩ := Int.eq_ofNat_of_zero_le (show 0 ≤ k by omega)
      by_cases h0 : s.pow = 0
      · have HE : Hid (s.cut (n : Int) = (s, 90)) := Lib.hid (by unfold SlabS.cut; rw [if_neg (by omega), if_pos h0])
        have H0 := Lib.hid h0
        clear h0
        rw [HE.out]
        go_enter Tryd.func55, Tryd.ntmps55
        go_wp2_with (go_at_call 46; refine (step_none HS.out H0.out).mono ?_; rintro e w1 ⟨rfl, rfl⟩)
        go_ret
        exact ⟨rfl, left_of HS.out (Turn.refl _ _)⟩
      · have HE : Hid (s.cut (n : Int) = ({ s with bs := s.bs.take n, sure := min s.sure n, pow := decP s.pow }, 0)) := Lib.hid (by unfold SlabS.cut; rw [if_neg (by omega), if_neg h0]; rfl)
        have H0 := Lib.hid h0
        clear h0
        rw [HE.out]
        go_enter Tryd.func55, Tryd.ntmps55
        go_wp2_with (first
          | (go_at_call 46; refine (step_at HS.out H0.out).mono ?_; rintro e w1 ⟨rfl, h1, ht1⟩; have H1 := Lib.hid h1; clear h1)
          | (go_at_call 44; refine (slabShorten_any Z g _ n (by show n ≤ s.bs.length; omega) _ H1.out).mono ?_; rintro e w2 ⟨rfl, h2, ht2⟩; have H2 := Lib.hid h2; clear h2))
        go_ret
        exact ⟨rfl, left_of H2.out (ht1.trans ht2 fun i _ hi => hi)⟩
theorem crash_pow {Z : Nat → Prop} {g : Nat} {s : SlabS} {w : World} {k : Nat} (h : SlabAt w Z g { s with bs := s.bs.take k, sure := min s.sure k }) (hk : k ≤ s.bs.length) (_hs : s.sure ≤ k) :
    SlabAt ((w.setCell ⟨g, 2, none⟩ (.int .i64 (k : Int))).setCell ⟨g, 3, none⟩ (.int .i64 (-1))) Z g { s with bs := s.bs.take k, sure := k, pow := -1 } ∧ Turn Z w ((w.setCell ⟨g, 2, none⟩ (.int .i64 (k : Int))).setCell ⟨g, 3, none⟩ (.int .i64 (-1))) := by
  have hl : (s.bs.take k).length = min k s.bs.length := by rw [List.length_take]
  have h2 := slab_sure h k (by show k ≤ (s.bs.take k).length; omega)
  have h3 := slab_pow h2 (-1) (by decide) (by decide)
  refine ⟨?_, (slab_set h 2 _).trans (slab_set h2 3 _) fun i _ hi => hi⟩
  exact h3
set_option maxHeartbeats 2000000 in
theorem slabCrash_any (Z : Nat → Prop) (g : Nat) (s : SlabS) (k : Int) (w : World) (h : SlabAt w Z g s) :
    Calls Tryd.prog 19 #[.pointer (some ⟨g, 0, none⟩), .int .i64 k] w fun e w' => e = .returned (.tuple #[]) ∧ Left Z g (s.crash k) w w' := by
  obtain ⟨A, c, hc, c0, c1, c2, c3, f1, f2, f3, hrd, hl, hsu, hg⟩ := slab_open h
  have HS := Lib.hid h
  have hle := left_le (by obtain ⟨_, _, _, _, _, _, hs⟩ := h; exact hs : s.Ok) k
  have hge : s.sure ≤ s.left k := by unfold SlabS.left; omega
  obtain ⟨n, hn⟩ : ∃ n, s.left k = n := ⟨_, rfl⟩
  have HN : Hid (s.left k = n) := hn
  have HSH : Hid (∀ W, SlabAt W Z g s → Calls Tryd.prog 44 #[.pointer (some ⟨g, 0, none⟩), .int .i64 (n : Int)] W fun e w' => e = .returned (.tuple #[]) ∧ SlabAt w' Z g { s with bs := s.bs.take n, sure := min s.sure n } ∧ Turn Z W w') := Lib.hid fun W hW => slabShorten_any Z g s n (by omega) W hW
  have hsub : 0 ≤ (s.bs.length : Int) - (s.sure : Int) := by omega
  rw [hn] at hle hge
  clear h hrd hn
  by_cases h0 : k < 0
  · have HA : Hid ((s.sure : Int) = (n : Int)) := Lib.hid (by rw [← HN.out]; unfold SlabS.left; omega)
    have m1 : k ≤ 0 := by omega
    have hmm : min (max k 0) ((s.bs.length : Int) - (s.sure : Int)) = 0 := by omega
    have m2 : ¬ 0 ≤ k := by omega
    have m3 : (0 : Int) ≤ (s.bs.length : Int) - (s.sure : Int) := hsub
    go_enter Tryd.func19, Tryd.ntmps19
    go_wp2
    go_quiet (fail)
    go_wp2_with (go_at_call 44; rw [HA.out]; refine (HSH.out _ (slab_drewN HS.out nq)).mono ?_; rintro e w1 ⟨rfl, h1, ht1⟩; obtain ⟨A1, cc1, hc1, g0, g1, g2, g3, k1, k2, k3, hrd1, hl1, hsu1, hg1⟩ := slab_open h1; obtain ⟨q1, q2⟩ := crash_pow h1 (by omega) (by omega); have Q1 := Lib.hid q1; have Q2 := Lib.hid (Turn.trans (S := Z) (S' := Z) (a := w) ⟨ht1.os, ht1.tape, ht1.output, ht1.size, ht1.block⟩ q2 fun i _ hi => hi); clear h1 hrd1 q1 q2)
    go_end0
    refine ⟨rfl, ?_⟩
    unfold SlabS.crash
    rw [HN.out]
    exact left_of Q1.out Q2.out
  · have m0 : 0 ≤ k := by omega
    by_cases h1 : k ≤ (s.bs.length : Int) - (s.sure : Int)
    · have HA : Hid ((s.sure : Int) + k = (n : Int)) := Lib.hid (by rw [← HN.out]; unfold SlabS.left; omega)
      have m3 : k ≤ (s.bs.length : Int) - (s.sure : Int) := by omega
      have hmm : min (max k 0) ((s.bs.length : Int) - (s.sure : Int)) = k := by omega
      go_enter Tryd.func19, Tryd.ntmps19
      go_wp2
      go_quiet (fail)
      go_wp2_with (go_at_call 44; rw [HA.out]; refine (HSH.out _ (slab_drewN HS.out nq)).mono ?_; rintro e w1 ⟨rfl, h1, ht1⟩; obtain ⟨A1, cc1, hc1, g0, g1, g2, g3, k1, k2, k3, hrd1, hl1, hsu1, hg1⟩ := slab_open h1; obtain ⟨q1, q2⟩ := crash_pow h1 (by omega) (by omega); have Q1 := Lib.hid q1; have Q2 := Lib.hid (Turn.trans (S := Z) (S' := Z) (a := w) ⟨ht1.os, ht1.tape, ht1.output, ht1.size, ht1.block⟩ q2 fun i _ hi => hi); clear h1 hrd1 q1 q2)
      go_end0
      refine ⟨rfl, ?_⟩
      unfold SlabS.crash
      rw [HN.out]
      exact left_of Q1.out Q2.out
    · have HA : Hid ((s.sure : Int) + ((s.bs.length : Int) - (s.sure : Int)) = (n : Int)) := Lib.hid (by rw [← HN.out]; unfold SlabS.left; omega)
      have m3 : (s.bs.length : Int) - (s.sure : Int) ≤ k := by omega
      have hmm : min (max k 0) ((s.bs.length : Int) - (s.sure : Int)) = (s.bs.length : Int) - (s.sure : Int) := by omega
      have m4 : (s.bs.length : Int) - (s.sure : Int) < k := by omega
      go_enter Tryd.func19, Tryd.ntmps19
      go_wp2
      go_quiet (fail)
      go_wp2_with (go_at_call 44; rw [HA.out]; refine (HSH.out _ (slab_drewN HS.out nq)).mono ?_; rintro e w1 ⟨rfl, h1, ht1⟩; obtain ⟨A1, cc1, hc1, g0, g1, g2, g3, k1, k2, k3, hrd1, hl1, hsu1, hg1⟩ := slab_open h1; obtain ⟨q1, q2⟩ := crash_pow h1 (by omega) (by omega); have Q1 := Lib.hid q1; have Q2 := Lib.hid (Turn.trans (S := Z) (S' := Z) (a := w) ⟨ht1.os, ht1.tape, ht1.output, ht1.size, ht1.block⟩ q2 fun i _ hi => hi); clear h1 hrd1 q1 q2)
      go_end0
      refine ⟨rfl, ?_⟩
      unfold SlabS.crash
      rw [HN.out]
      exact left_of Q1.out Q2.out
end Go.Proofs.YtkbdkeclbokhdaaDoor
