/-
  The reference's slab, the rest of it: Append, Sync, Cut, Crash, Spoil. No condition.
-/
import Derived.Test.YtbmogeafhmejbaaDoorSlabRefJ
import Derived.Test.YtbmogeafhmejbaaDoorSlabBJ
namespace Go.Proofs.YtbmogeafhmejbaaDoor
open Go Go.RowKit Go.Shelf

/-- Power for so many steps, as the reference has it. -/
def nrm (p : Int) : Int := if p < 0 then -1 else p
theorem nrm_zero {p : Int} (h : p = 0) : nrm p = 0 := by rw [h]; rfl
theorem nrm_ne {p : Int} (h : p ≠ 0) : nrm p ≠ 0 := by unfold nrm; split <;> omega
theorem nrm_le {p : Int} (h : p ≤ 9223372036854775807) : nrm p ≤ 9223372036854775807 := by unfold nrm; split <;> omega
theorem nrm_dec {p : Int} (h : p ≠ 0) : decP (nrm p) = nrm (decP p) := by
  unfold nrm decP
  by_cases h1 : p < 0
  · rw [if_pos h1, if_neg (show ¬ (0 : Int) < -1 by omega), if_neg (show ¬ 0 < p by omega), if_pos h1]
  · rw [if_neg h1, if_pos (show 0 < p by omega), if_neg (show ¬ p - 1 < 0 by omega)]
/-- The reference's slab of a slab. -/
def SlabS.v (s : SlabS) : Value := .agg #[.int .i64 (s.room : Int), .int .i64 (s.sure : Int), .int .i64 (nrm s.pow), .string ⟨s.bs.toArray⟩]
theorem refStep_at {s : SlabS} (hs : s.Ok) (h0 : s.pow ≠ 0) (w : World) : Calls Tryd.prog 57 #[.agg #[.int .i64 (s.room : Int), .int .i64 (s.sure : Int), .int .i64 (nrm s.pow), .string ⟨s.bs.toArray⟩]] w fun e w' => e = .returned (.tuple #[.agg #[.int .i64 (s.room : Int), .int .i64 (s.sure : Int), .int .i64 (nrm (decP s.pow)), .string ⟨s.bs.toArray⟩], .bool true]) ∧ Below w.heap.size w w' := by
  have := refStep_yes (s.room : Int) (s.sure : Int) (nrm s.pow) s.bs (nrm_ne h0) (nrm_le hs.hi) w
  rw [nrm_dec h0] at this
  exact this
theorem refStep_none {s : SlabS} (h0 : s.pow = 0) (w : World) : Calls Tryd.prog 57 #[.agg #[.int .i64 (s.room : Int), .int .i64 (s.sure : Int), .int .i64 (nrm s.pow), .string ⟨s.bs.toArray⟩]] w fun e w' => e = .returned (.tuple #[.agg #[.int .i64 (s.room : Int), .int .i64 (s.sure : Int), .int .i64 (nrm s.pow), .string ⟨s.bs.toArray⟩], .bool false]) ∧ Below w.heap.size w w' := by
  rw [nrm_zero h0]
  exact refStep_no _ _ _ w
theorem two_vars {w w1 : World} {t : TypeId} {a b : Array Value} (hb : Below ((w.alloc (.cells a t)).alloc (.cells b t)).heap.size ((w.alloc (.cells a t)).alloc (.cells b t)) w1) : Blk w1 w.heap.size t a ∧ Blk w1 (w.heap.size + 1) t b ∧ Below w.heap.size w w1 ∧ w.heap.size + 1 < w1.heap.size := by
  have h1 : Blk ((w.alloc (.cells a t)).alloc (.cells b t)) w.heap.size t a := (Blk.newAt w _ rfl rfl).alloc _
  have h2 : Blk ((w.alloc (.cells a t)).alloc (.cells b t)) (w.heap.size + 1) t b := Blk.newAt _ _ (by simp) rfl
  have hz := hb.size
  simp at hz
  exact ⟨h1.below hb h1.lt, h2.below hb h2.lt, (b2 w _ _ _ _).trans (hb.mono (by simp; omega)), by omega⟩
theorem cells4 {w : World} {g : Nat} {t : TypeId} {a b c d : Value} (h : Blk w g t #[a, b, c, d]) :
    w.cell? ⟨g, 0, none⟩ = some a ∧ w.cell? ⟨g, 1, none⟩ = some b ∧ w.cell? ⟨g, 2, none⟩ = some c ∧ w.cell? ⟨g, 3, none⟩ = some d ∧ w.frozen? ⟨g, 0, none⟩ = false ∧ w.frozen? ⟨g, 1, none⟩ = false ∧ w.frozen? ⟨g, 2, none⟩ = false ∧ w.frozen? ⟨g, 3, none⟩ = false :=
  ⟨h.cell 0, h.cell 1, h.cell 2, h.cell 3, h.frozen 0, h.frozen 1, h.frozen 2, h.frozen 3⟩
theorem var_stored {w : World} {g : Nat} {t : TypeId} {x y z u : Value} (h : Blk w g t #[x, y, z, u]) (a b c d : Value) : Blk ((((w.setCell ⟨g, 0, none⟩ a).setCell ⟨g, 1, none⟩ b).setCell ⟨g, 2, none⟩ c).setCell ⟨g, 3, none⟩ d) g t #[a, b, c, d] := (((h.store 0 a).store 1 b).store 2 c).store 3 d
theorem var_below {B : Nat} {w w1 : World} {g : Nat} (h : Below B w w1) (hg : B ≤ g) (a b c d : Value) : Below B w ((((w1.setCell ⟨g, 0, none⟩ a).setCell ⟨g, 1, none⟩ b).setCell ⟨g, 2, none⟩ c).setCell ⟨g, 3, none⟩ d) := (((h.setCell (p := ⟨g, 0, none⟩) hg a).setCell (p := ⟨g, 1, none⟩) hg b).setCell (p := ⟨g, 2, none⟩) hg c).setCell (p := ⟨g, 3, none⟩) hg d
theorem var_alloc {w w1 : World} (h : Below w.heap.size w w1) (o : Obj) : Below w.heap.size w (w1.alloc o) := h.alloc h.size o
set_option maxHeartbeats 2000000 in
theorem refCut_any (s : SlabS) (hs : s.Ok) (k : Int) (w : World) :
    Calls Tryd.prog 37 #[s.v, .int .i64 k] w fun e w' => e = .returned (.tuple #[(s.cut k).1.v, .int .i64 (s.cut k).2]) ∧ Below w.heap.size w w' := by
  have h1 := hs.fits
  have h2 := hs.room
  have hsz2 : (⟨s.bs.toArray⟩ : ByteArray).size = s.bs.length := ba_len _
  have HS := Lib.hid hs
  clear hs
  by_cases hk : k < 0
  · have HE : Hid (s.cut k = (s, 1)) := Lib.hid (by unfold SlabS.cut; rw [if_pos (.inl hk)])
    have d0 : decide (k < 0) = true := decide_eq_true hk
    rw [HE.out]
    unfold SlabS.v
    go_enter Tryd.func37, Tryd.ntmps37
    go_wp2
    exact ref_end rfl (w.heap.size + 1) _ _ _ _ rfl (Blk.newAt _ _ (by simp) rfl) rfl ⟨rfl, b2 _ _ _ _ _⟩
  · have d0 : decide (k < 0) = false := decide_eq_false hk
    by_cases hk2 : (s.bs.length : Int) < k
    · have HE : Hid (s.cut k = (s, 1)) := Lib.hid (by unfold SlabS.cut; rw [if_pos (.inr hk2)])
      have d1 : decide ((s.bs.length : Int) < k) = true := decide_eq_true hk2
      rw [HE.out]
      unfold SlabS.v
      go_enter Tryd.func37, Tryd.ntmps37
      go_wp2
      exact ref_end rfl (w.heap.size + 1) _ _ _ _ rfl (Blk.newAt _ _ (by simp) rfl) rfl ⟨rfl, b2 _ _ _ _ _⟩
    · have d1 : decide ((s.bs.length : Int) < k) = false := decide_eq_false hk2
      obtain ⟨n, rfl⟩ := Int.eq_ofNat_of_zero_le (show 0 ≤ k by omega)
      by_cases h0 : s.pow = 0
      · have HE : Hid (s.cut (n : Int) = (s, 90)) := Lib.hid (by unfold SlabS.cut; rw [if_neg (by omega), if_pos h0])
        have H0 := Lib.hid h0
        clear h0
        rw [HE.out]
        unfold SlabS.v
        go_enter Tryd.func37, Tryd.ntmps37
        go_wp2_with (go_at_call 57; refine (refStep_none H0.out _).mono ?_; rintro e w1 ⟨rfl, hb1⟩; obtain ⟨hX, hR, hb2, hz⟩ := two_vars hb1; have hz0 := Nat.lt_of_succ_lt hz; obtain ⟨x0, x1, x2, x3, _, _, _, _⟩ := cells4 hX; obtain ⟨r0, r1, r2, r3, q0, q1, q2, q3⟩ := cells4 hR; have HB := Lib.hid hb2; have HR := Lib.hid hR; clear hb1 hb2 hX hR)
        exact ref_end rfl (w.heap.size + 1) _ _ _ _ rfl ((var_stored HR.out _ _ _ _).alloc _) rfl ⟨rfl, var_alloc (var_below HB.out (by omega) _ _ _ _) _⟩
      · have HE : Hid (s.cut (n : Int) = ({ s with bs := s.bs.take n, sure := min s.sure n, pow := decP s.pow }, 0)) := Lib.hid (by unfold SlabS.cut; rw [if_neg (by omega), if_neg h0]; rfl)
        have H0 : Hid (s.pow ≠ 0) := Lib.hid h0
        have es := fun W => to_str s.bs n (by omega) W
        clear h0
        by_cases hsn : n < s.sure
        · have hsn' : (n : Int) < (s.sure : Int) := by omega
          have hm : min s.sure n = n := by omega
          rw [HE.out, hm]
          clear hm
          unfold SlabS.v
          go_enter Tryd.func37, Tryd.ntmps37
          go_wp2_with (go_at_call 57; refine (refStep_at HS.out H0.out _).mono ?_; rintro e w1 ⟨rfl, hb1⟩; obtain ⟨hX, hR, hb2, hz⟩ := two_vars hb1; have hz0 := Nat.lt_of_succ_lt hz; obtain ⟨x0, x1, x2, x3, _, _, _, _⟩ := cells4 hX; obtain ⟨r0, r1, r2, r3, q0, q1, q2, q3⟩ := cells4 hR; have HB := Lib.hid hb2; have HR := Lib.hid hR; clear hb1 hb2 hX hR)
          exact ref_end rfl (w.heap.size + 1) _ _ _ _ rfl ((var_stored HR.out _ _ _ _).alloc _) rfl ⟨rfl, var_alloc (var_below HB.out (by omega) _ _ _ _) _⟩
        · have hsn' : ¬ (n : Int) < (s.sure : Int) := by omega
          have hm : min s.sure n = s.sure := by omega
          rw [HE.out, hm]
          clear hm
          unfold SlabS.v
          go_enter Tryd.func37, Tryd.ntmps37
          go_wp2_with (go_at_call 57; refine (refStep_at HS.out H0.out _).mono ?_; rintro e w1 ⟨rfl, hb1⟩; obtain ⟨hX, hR, hb2, hz⟩ := two_vars hb1; have hz0 := Nat.lt_of_succ_lt hz; obtain ⟨x0, x1, x2, x3, _, _, _, _⟩ := cells4 hX; obtain ⟨r0, r1, r2, r3, q0, q1, q2, q3⟩ := cells4 hR; have HB := Lib.hid hb2; have HR := Lib.hid hR; clear hb1 hb2 hX hR)
          exact ref_end rfl (w.heap.size + 1) _ _ _ _ rfl ((var_stored HR.out _ _ _ _).alloc _) rfl ⟨rfl, var_alloc (var_below HB.out (by omega) _ _ _ _) _⟩
end Go.Proofs.YtbmogeafhmejbaaDoor
