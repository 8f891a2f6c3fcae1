/-
  The reference's slab: for every slab as a value and every argument: what it answers; nothing old turns. No condition.
  The reference's slab, the rest of it: Append, Sync, Cut, Crash, Spoil. No condition.
  The reference's slab: Crash and Spoil. No condition.
-/
import Derived.Test.YtgpbpdjamimbfaaDoorSlabJ
import Derived.Test.YtgpbpdjamimbfaaDoorPackOps
import Derived.Test.YtgpbpdjamimbfaaDoorSlabBJ
import Derived.BigRegion
import Derived.RegionTactic
import Derived.ChangeAlike
import Derived.IntWalk
import Derived.Test.YtgpbpdjamimbfaaDoorFrame
namespace Go.Proofs.YtgpbpdjamimbfaaDoor
open Go Go.RowKit Go.Shelf

/-- The end of a function whose results are a slab in a variable and a number, or a bool. -/
theorem ref_end {F : Func} {p q : Tmp} (hF : F.results = #[.cell p 29, .tmp q]) {R : Ending → World → Prop} {a : Act} {w : World} (g : Nat) (x y z t : Value) (hp : a.tmps.getD p undef = .pointer (some ⟨g, 0, none⟩)) (hg : Blk w g 29 #[x, y, z, t]) (hd : a.defers = [])
    (hR : R (.returned (.tuple #[.agg #[x, y, z, t], a.tmps.getD q undef])) w) : bodyPost Tryd.prog F R .ret a w :=
  bodyPost_ret (results_cell_tmp (p := p) (q := q) hF _ _ g _ _ _ hp hg Tryd.underlying29 rfl (by kernel_rfl)) hd hR
theorem ref_end1 {F : Func} {p : Tmp} (hF : F.results = #[.cell p 29]) {R : Ending → World → Prop} {a : Act} {w : World} (g : Nat) (x y z t : Value) (hp : a.tmps.getD p undef = .pointer (some ⟨g, 0, none⟩)) (hg : Blk w g 29 #[x, y, z, t]) (hd : a.defers = [])
    (hR : R (.returned (.agg #[x, y, z, t])) w) : bodyPost Tryd.prog F R .ret a w :=
  bodyPost_ret (results_cell_row (p := p) hF _ _ g _ _ (0, 0) _ hp hg Tryd.underlying29 rfl (by kernel_rfl)) hd hR
theorem b2 (w : World) (t t' : TypeId) (a b : Array Value) : Below w.heap.size w ((w.alloc (.cells a t)).alloc (.cells b t')) := ((Below.refl _ _).alloc (Nat.le_refl _) _).alloc (by simp) _
set_option maxHeartbeats 1000000 in
theorem refStep_no (room su : Int) (bs : List UInt8) (w : World) :
    Calls Tryd.prog 57 #[.agg #[.int .i64 room, .int .i64 su, .int .i64 0, .string ⟨bs.toArray⟩]] w fun e w' => e = .returned (.tuple #[.agg #[.int .i64 room, .int .i64 su, .int .i64 0, .string ⟨bs.toArray⟩], .bool false]) ∧ Below w.heap.size w w' := by
  go_enter Tryd.func57, Tryd.ntmps57
  go_wp2
  exact ref_end rfl (w.heap.size + 1) _ _ _ _ rfl (Blk.newAt _ _ (by simp) rfl) rfl ⟨rfl, b2 _ _ _ _ _⟩
set_option maxHeartbeats 1000000 in
theorem refStep_yes (room su st : Int) (bs : List UInt8) (h0 : st ≠ 0) (h2 : st ≤ 9223372036854775807) (w : World) :
    Calls Tryd.prog 57 #[.agg #[.int .i64 room, .int .i64 su, .int .i64 st, .string ⟨bs.toArray⟩]] w fun e w' => e = .returned (.tuple #[.agg #[.int .i64 room, .int .i64 su, .int .i64 (decP st), .string ⟨bs.toArray⟩], .bool true]) ∧ Below w.heap.size w w' := by
  have d0 : (st == 0) = false := by simpa using h0
  clear h0
  by_cases h1 : 0 < st
  · have HD : Hid (decP st = st - 1) := Lib.hid (by unfold decP; rw [if_pos h1])
    rw [HD.out]
    go_enter Tryd.func57, Tryd.ntmps57
    go_wp2
    exact ref_end rfl (w.heap.size + 1) _ _ _ _ rfl (Blk.newAt _ _ (by simp) rfl) rfl ⟨rfl, b2 _ _ _ _ _⟩
  · have HD : Hid (decP st = st) := Lib.hid (by unfold decP; rw [if_neg h1])
    rw [HD.out]
    go_enter Tryd.func57, Tryd.ntmps57
    go_wp2
    exact ref_end rfl (w.heap.size + 1) _ _ _ _ rfl (Blk.newAt _ _ (by simp) rfl) rfl ⟨rfl, b2 _ _ _ _ _⟩
set_option maxHeartbeats 1000000 in
theorem refNew_ok (n : Int) (h0 : 0 ≤ n) (h1 : n ≤ 4194304) (w : World) :
    Calls Tryd.prog 12 #[.int .i64 n] w fun e w' => e = .returned (.tuple #[.agg #[.int .i64 n, .int .i64 0, .int .i64 (-1), .string ⟨#[]⟩], .int .i64 0]) ∧ Below w.heap.size w w' := by
  have d0 : decide (n < 0) = false := decide_eq_false (by omega)
  have d1 : decide (4194304 < n) = false := decide_eq_false (by omega)
  go_enter Tryd.func12, Tryd.ntmps12
  go_wp2
  exact ref_end rfl w.heap.size _ _ _ _ rfl (Blk.newAt _ _ (by simp) rfl) rfl ⟨rfl, (Below.refl _ _).alloc (Nat.le_refl _) _⟩
set_option maxHeartbeats 1000000 in
theorem refBreak_any (room su st n : Int) (bs : List UInt8) (w : World) :
    Calls Tryd.prog 18 #[.agg #[.int .i64 room, .int .i64 su, .int .i64 st, .string ⟨bs.toArray⟩], .int .i64 n] w fun e w' => e = .returned (.agg #[.int .i64 room, .int .i64 su, .int .i64 (if n < 0 then -1 else n), .string ⟨bs.toArray⟩]) ∧ Below w.heap.size w w' := by
  by_cases h0 : n < 0
  · have HD : Hid ((if n < 0 then -1 else n) = -1) := Lib.hid (by rw [if_pos h0])
    rw [HD.out]
    go_enter Tryd.func18, Tryd.ntmps18
    go_wp2
    exact ref_end1 rfl (w.heap.size + 1) _ _ _ _ rfl (Blk.newAt _ _ (by simp) rfl) rfl ⟨rfl, b2 _ _ _ _ _⟩
  · have HD : Hid ((if n < 0 then -1 else n) = n) := Lib.hid (by rw [if_neg h0])
    rw [HD.out]
    go_enter Tryd.func18, Tryd.ntmps18
    go_wp2
    exact ref_end1 rfl (w.heap.size + 1) _ _ _ _ rfl (Blk.newAt _ _ (by simp) rfl) rfl ⟨rfl, b2 _ _ _ _ _⟩
end Go.Proofs.YtgpbpdjamimbfaaDoor
namespace Go.Proofs.YtgpbpdjamimbfaaDoor
open Go Go.RowKit Go.Shelf

/-- Power for so many steps, as the reference has it. -/
def nrm (p : Int) : Int := if p < 0 then -1 else p
theorem nrm_zero {p : Int} (h : p = 0) : nrm p = 0 := by rw [h]; rfl
theorem nrm_ne {p : Int} (h : p ≠ 0) : nrm p ≠ 0 := by unfold nrm; split <;> omega
theorem nrm_le {p : Int} (h : p ≤ 9223372036854775807) : nrm p ≤ 9223372036854775807 := by unfold nrm; split <;> omega
theorem nrm_dec {p : Int} (h : p ≠ 0) : decP (nrm p) = nrm (decP p) := by
  unfold nrm decP
  by_cases h1 : p < 0
  · rw [if_pos h1, if_neg (show ¬ (0 : Int) < -1 by omega), if_neg (show ¬ 0 < p by omega), if_pos h1]
  · rw [if_neg h1, if_pos (show 0 < p by omega), if_neg (show ¬ p - 1 < 0 by omega)]
/-- The reference's slab of a slab. -/
def SlabS.v (s : SlabS) : Value := .agg #[.int .i64 (s.room : Int), .int .i64 (s.sure : Int), .int .i64 (nrm s.pow), .string ⟨s.bs.toArray⟩]
theorem refStep_at {s : SlabS} (hs : s.Ok) (h0 : s.pow ≠ 0) (w : World) : Calls Tryd.prog 57 #[.agg #[.int .i64 (s.room : Int), .int .i64 (s.sure : Int), .int .i64 (nrm s.pow), .string ⟨s.bs.toArray⟩]] w fun e w' => e = .returned (.tuple #[.agg #[.int .i64 (s.room : Int), .int .i64 (s.sure : Int), .int .i64 (nrm (decP s.pow)), .string ⟨s.bs.toArray⟩], .bool true]) ∧ Below w.heap.size w w' := by
  have := refStep_yes (s.room : Int) (s.sure : Int) (nrm s.pow) s.bs (nrm_ne h0) (nrm_le hs.hi) w
  rw [nrm_dec h0] at this
  exact this
theorem refStep_none {s : SlabS} (h0 : s.pow = 0) (w : World) : Calls Tryd.prog 57 #[.agg #[.int .i64 (s.room : Int), .int .i64 (s.sure : Int), .int .i64 (nrm s.pow), .string ⟨s.bs.toArray⟩]] w fun e w' => e = .returned (.tuple #[.agg #[.int .i64 (s.room : Int), .int .i64 (s.sure : Int), .int .i64 (nrm s.pow), .string ⟨s.bs.toArray⟩], .bool false]) ∧ Below w.heap.size w w' := by
  rw [nrm_zero h0]
  exact refStep_no _ _ _ w
theorem two_vars {w w1 : World} {t : TypeId} {a b : Array Value} (hb : Below ((w.alloc (.cells a t)).alloc (.cells b t)).heap.size ((w.alloc (.cells a t)).alloc (.cells b t)) w1) : Blk w1 w.heap.size t a ∧ Blk w1 (w.heap.size + 1) t b ∧ Below w.heap.size w w1 ∧ w.heap.size + 1 < w1.heap.size := by
  have h1 : Blk ((w.alloc (.cells a t)).alloc (.cells b t)) w.heap.size t a := (Blk.newAt w _ rfl rfl).alloc _
  have h2 : Blk ((w.alloc (.cells a t)).alloc (.cells b t)) (w.heap.size + 1) t b := Blk.newAt _ _ (by simp) rfl
  have hz := hb.size
  simp at hz
  exact ⟨h1.below hb h1.lt, h2.below hb h2.lt, (b2 w _ _ _ _).trans (hb.mono (by simp; omega)), by omega⟩
theorem cells4 {w : World} {g : Nat} {t : TypeId} {a b c d : Value} (h : Blk w g t #[a, b, c, d]) :
    w.cell? ⟨g, 0, none⟩ = some a ∧ w.cell? ⟨g, 1, none⟩ = some b ∧ w.cell? ⟨g, 2, none⟩ = some c ∧ w.cell? ⟨g, 3, none⟩ = some d ∧ w.frozen? ⟨g, 0, none⟩ = false ∧ w.frozen? ⟨g, 1, none⟩ = false ∧ w.frozen? ⟨g, 2, none⟩ = false ∧ w.frozen? ⟨g, 3, none⟩ = false :=
  ⟨h.cell 0, h.cell 1, h.cell 2, h.cell 3, h.frozen 0, h.frozen 1, h.frozen 2, h.frozen 3⟩
theorem var_stored {w : World} {g : Nat} {t : TypeId} {x y z u : Value} (h : Blk w g t #[x, y, z, u]) (a b c d : Value) : Blk ((((w.setCell ⟨g, 0, none⟩ a).setCell ⟨g, 1, none⟩ b).setCell ⟨g, 2, none⟩ c).setCell ⟨g, 3, none⟩ d) g t #[a, b, c, d] := (((h.store 0 a).store 1 b).store 2 c).store 3 d
theorem var_below {B : Nat} {w w1 : World} {g : Nat} (h : Below B w w1) (hg : B ≤ g) (a b c d : Value) : Below B w ((((w1.setCell ⟨g, 0, none⟩ a).setCell ⟨g, 1, none⟩ b).setCell ⟨g, 2, none⟩ c).setCell ⟨g, 3, none⟩ d) := (((h.setCell (p := ⟨g, 0, none⟩) hg a).setCell (p := ⟨g, 1, none⟩) hg b).setCell (p := ⟨g, 2, none⟩) hg c).setCell (p := ⟨g, 3, none⟩) hg d
theorem var_alloc {w w1 : World} (h : Below w.heap.size w w1) (o : Obj) : Below w.heap.size w (w1.alloc o) := h.alloc h.size o
set_option maxHeartbeats 2000000 in
theorem refAppend_any (s : SlabS) (hs : s.Ok) (cs : List UInt8) (hc : cs.length ≤ 1048576) (w : World) :
    Calls Tryd.prog 38 #[s.v, .string ⟨cs.toArray⟩] w fun e w' => e = .returned (.tuple #[(s.app cs).1.v, .int .i64 (s.app cs).2]) ∧ Below w.heap.size w w' := by
  have h1 := hs.fits
  have h2 := hs.room
  obtain ⟨m, hm⟩ : ∃ m, cs.length = m := ⟨_, rfl⟩
  have hsz1 : (⟨cs.toArray⟩ : ByteArray).size = m := by rw [ba_len, hm]
  have hsz2 : (⟨s.bs.toArray⟩ : ByteArray).size = s.bs.length := ba_len _
  have hroom : 0 ≤ (s.room : Int) - (s.bs.length : Int) := by omega
  have HS := Lib.hid hs
  rw [hm] at hc
  have HM := Lib.hid hm
  have e9 := fun W => add_str s.bs cs (by omega) W
  clear hs hm
  by_cases hf : s.room - s.bs.length < m
  · have HE : Hid (s.app cs = (s, 3)) := Lib.hid (by unfold SlabS.app; rw [HM.out, if_pos hf])
    have hlt : (s.room : Int) - (s.bs.length : Int) < (m : Int) := by omega
    rw [HE.out]
    unfold SlabS.v
    go_enter Tryd.func38, Tryd.ntmps38
    go_wp2
    exact ref_end rfl (w.heap.size + 1) _ _ _ _ rfl (Blk.newAt _ _ (by simp) rfl) rfl ⟨rfl, b2 _ _ _ _ _⟩
  · have hlt : ¬ (s.room : Int) - (s.bs.length : Int) < (m : Int) := by omega
    by_cases h0 : s.pow = 0
    · have HE : Hid (s.app cs = (s, 90)) := Lib.hid (by unfold SlabS.app; rw [HM.out, if_neg hf, if_pos h0])
      have H0 := Lib.hid h0
      clear h0 hf
      rw [HE.out]
      unfold SlabS.v
      go_enter Tryd.func38, Tryd.ntmps38
      go_wp2_with (go_at_call 57; refine (refStep_none H0.out _).mono ?_; rintro e w1 ⟨rfl, hb1⟩; obtain ⟨hX, hR, hb2, hz⟩ := two_vars hb1; have hz0 := Nat.lt_of_succ_lt hz; obtain ⟨x0, x1, x2, x3, _, _, _, _⟩ := cells4 hX; obtain ⟨r0, r1, r2, r3, q0, q1, q2, q3⟩ := cells4 hR; have HB := Lib.hid hb2; have HR := Lib.hid hR; clear hb1 hb2 hX hR)
      exact ref_end rfl (w.heap.size + 1) _ _ _ _ rfl ((var_stored HR.out _ _ _ _).alloc _) rfl ⟨rfl, var_alloc (var_below HB.out (by omega) _ _ _ _) _⟩
    · have HE : Hid (s.app cs = ({ s with bs := s.bs ++ cs, pow := decP s.pow }, 0)) := Lib.hid (by unfold SlabS.app; rw [HM.out, if_neg hf, if_neg h0])
      have H0 : Hid (s.pow ≠ 0) := Lib.hid h0
      clear h0 hf
      rw [HE.out]
      unfold SlabS.v
      go_enter Tryd.func38, Tryd.ntmps38
      go_wp2_with (go_at_call 57; refine (refStep_at HS.out H0.out _).mono ?_; rintro e w1 ⟨rfl, hb1⟩; obtain ⟨hX, hR, hb2, hz⟩ := two_vars hb1; have hz0 := Nat.lt_of_succ_lt hz; obtain ⟨x0, x1, x2, x3, _, _, _, _⟩ := cells4 hX; obtain ⟨r0, r1, r2, r3, q0, q1, q2, q3⟩ := cells4 hR; have HB := Lib.hid hb2; have HR := Lib.hid hR; clear hb1 hb2 hX hR)
      exact ref_end rfl (w.heap.size + 1) _ _ _ _ rfl ((var_stored HR.out _ _ _ _).alloc _) rfl ⟨rfl, var_alloc (var_below HB.out (by omega) _ _ _ _) _⟩
set_option maxHeartbeats 2000000 in
theorem refSync_any (s : SlabS) (hs : s.Ok) (w : World) :
    Calls Tryd.prog 39 #[s.v] w fun e w' => e = .returned (.tuple #[s.sync.1.v, .int .i64 s.sync.2]) ∧ Below w.heap.size w w' := by
  have h1 := hs.fits
  have h2 := hs.room
  have hsz2 : (⟨s.bs.toArray⟩ : ByteArray).size = s.bs.length := ba_len _
  have HS := Lib.hid hs
  clear hs
  by_cases h0 : s.pow = 0
  · have HE : Hid (s.sync = (s, 90)) := Lib.hid (by unfold SlabS.sync; rw [if_pos h0])
    have H0 := Lib.hid h0
    clear h0
    rw [HE.out]
    unfold SlabS.v
    go_enter Tryd.func39, Tryd.ntmps39
    go_wp2_with (go_at_call 57; refine (refStep_none H0.out _).mono ?_; rintro e w1 ⟨rfl, hb1⟩; obtain ⟨hX, hR, hb2, hz⟩ := two_vars hb1; have hz0 := Nat.lt_of_succ_lt hz; obtain ⟨x0, x1, x2, x3, _, _, _, _⟩ := cells4 hX; obtain ⟨r0, r1, r2, r3, q0, q1, q2, q3⟩ := cells4 hR; have HB := Lib.hid hb2; have HR := Lib.hid hR; clear hb1 hb2 hX hR)
    exact ref_end rfl (w.heap.size + 1) _ _ _ _ rfl ((var_stored HR.out _ _ _ _).alloc _) rfl ⟨rfl, var_alloc (var_below HB.out (by omega) _ _ _ _) _⟩
  · have HE : Hid (s.sync = ({ s with sure := s.bs.length, pow := decP s.pow }, 0)) := Lib.hid (by unfold SlabS.sync; rw [if_neg h0])
    have H0 : Hid (s.pow ≠ 0) := Lib.hid h0
    clear h0
    rw [HE.out]
    unfold SlabS.v
    go_enter Tryd.func39, Tryd.ntmps39
    go_wp2_with (go_at_call 57; refine (refStep_at HS.out H0.out _).mono ?_; rintro e w1 ⟨rfl, hb1⟩; obtain ⟨hX, hR, hb2, hz⟩ := two_vars hb1; have hz0 := Nat.lt_of_succ_lt hz; obtain ⟨x0, x1, x2, x3, _, _, _, _⟩ := cells4 hX; obtain ⟨r0, r1, r2, r3, q0, q1, q2, q3⟩ := cells4 hR; have HB := Lib.hid hb2; have HR := Lib.hid hR; clear hb1 hb2 hX hR)
    exact ref_end rfl (w.heap.size + 1) _ _ _ _ rfl ((var_stored HR.out _ _ _ _).alloc _) rfl ⟨rfl, var_alloc (var_below HB.out (by omega) _ _ _ _) _⟩
set_option maxHeartbeats 2000000 in
theorem refCut_any (s : SlabS) (hs : s.Ok) (k : Int) (w : World) :
    Calls Tryd.prog 37 #[s.v, .int .i64 k] w fun e w' => e = .returned (.tuple #[(s.cut k).1.v, .int .i64 (s.cut k).2]) ∧ Below w.heap.size w w' := by
  have h1 := hs.fits
  have h2 := hs.room
  have hsz2 : (⟨s.bs.toArray⟩ : ByteArray).size = s.bs.length := ba_len _
  have HS := Lib.hid hs
  clear hs
  by_cases hk : k < 0
  · have HE : Hid (s.cut k = (s, 1)) := Lib.hid (by unfold SlabS.cut; rw [if_pos (.inl hk)])
    have d0 : decide (k < 0) = true := decide_eq_true hk
    rw [HE.out]
    unfold SlabS.v
    go_enter Tryd.func37, Tryd.ntmps37
    go_wp2
    exact ref_end rfl (w.heap.size + 1) _ _ _ _ rfl (Blk.newAt _ _ (by simp) rfl) rfl ⟨rfl, b2 _ _ _ _ _⟩
  · have d0 : decide (k < 0) = false := decide_eq_false hk
    by_cases hk2 : (s.bs.length : Int) < k
    · have HE : Hid (s.cut k = (s, 1)) := Lib.hid (by unfold SlabS.cut; rw [if_pos (.inr hk2)])
      have d1 : decide ((s.bs.length : Int) < k) = true := decide_eq_true hk2
      rw [HE.out]
      unfold SlabS.v
      go_enter Tryd.func37, Tryd.ntmps37
      go_wp2
      exact ref_end rfl (w.heap.size + 1) _ _ _ _ rfl (Blk.newAt _ _ (by simp) rfl) rfl ⟨rfl, b2 _ _ _ _ _⟩
    · have d1 : decide ((s.bs.length : Int) < k) = false := decide_eq_false hk2
      obtain ⟨n, rfl⟩ := Int.eq_ofNat_of_zero_le (show 0 ≤ k by omega)
      by_cases h0 : s.pow = 0
      · have HE : Hid (s.cut (n : Int) = (s, 90)) := Lib.hid (by unfold SlabS.cut; rw [if_neg (by omega), if_pos h0])
        have H0 := Lib.hid h0
        clear h0
        rw [HE.out]
        unfold SlabS.v
        go_enter Tryd.func37, Tryd.ntmps37
        go_wp2_with (go_at_call 57; refine (refStep_none H0.out _).mono ?_; rintro e w1 ⟨rfl, hb1⟩; obtain ⟨hX, hR, hb2, hz⟩ := two_vars hb1; have hz0 := Nat.lt_of_succ_lt hz; obtain ⟨x0, x1, x2, x3, _, _, _, _⟩ := cells4 hX; obtain ⟨r0, r1, r2, r3, q0, q1, q2, q3⟩ := cells4 hR; have HB := Lib.hid hb2; have HR := Lib.hid hR; clear hb1 hb2 hX hR)
        exact ref_end rfl (w.heap.size + 1) _ _ _ _ rfl ((var_stored HR.out _ _ _ _).alloc _) rfl ⟨rfl, var_alloc (var_below HB.out (by omega) _ _ _ _) _⟩
      · have HE : Hid (s.cut (n : Int) = ({ s with bs := s.bs.take n, sure := min s.sure n, pow := decP s.pow }, 0)) := Lib.hid (by unfold SlabS.cut; rw [if_neg (by omega), if_neg h0]; rfl)
        have H0 : Hid (s.pow ≠ 0) := Lib.hid h0
        have es := fun W => to_str s.bs n (by omega) W
        clear h0
        by_cases hsn : n < s.sure
        · have hsn' : (n : Int) < (s.sure : Int) := by omega
          have hm : min s.sure n = n := by omega
          rw [HE.out, hm]
          clear hm
          unfold SlabS.v
          go_enter Tryd.func37, Tryd.ntmps37
          go_wp2_with (go_at_call 57; refine (refStep_at HS.out H0.out _).mono ?_; rintro e w1 ⟨rfl, hb1⟩; obtain ⟨hX, hR, hb2, hz⟩ := two_vars hb1; have hz0 := Nat.lt_of_succ_lt hz; obtain ⟨x0, x1, x2, x3, _, _, _, _⟩ := cells4 hX; obtain ⟨r0, r1, r2, r3, q0, q1, q2, q3⟩ := cells4 hR; have HB := Lib.hid hb2; have HR := Lib.hid hR; clear hb1 hb2 hX hR)
          exact ref_end rfl (w.heap.size + 1) _ _ _ _ rfl ((var_stored HR.out _ _ _ _).alloc _) rfl ⟨rfl, var_alloc (var_below HB.out (by omega) _ _ _ _) _⟩
        · have hsn' : ¬ (n : Int) < (s.sure : Int) := by omega
          have hm : min s.sure n = s.sure := by omega
          rw [HE.out, hm]
          clear hm
          unfold SlabS.v
          go_enter Tryd.func37, Tryd.ntmps37
          go_wp2_with (go_at_call 57; refine (refStep_at HS.out H0.out _).mono ?_; rintro e w1 ⟨rfl, hb1⟩; obtain ⟨hX, hR, hb2, hz⟩ := two_vars hb1; have hz0 := Nat.lt_of_succ_lt hz; obtain ⟨x0, x1, x2, x3, _, _, _, _⟩ := cells4 hX; obtain ⟨r0, r1, r2, r3, q0, q1, q2, q3⟩ := cells4 hR; have HB := Lib.hid hb2; have HR := Lib.hid hR; clear hb1 hb2 hX hR)
          exact ref_end rfl (w.heap.size + 1) _ _ _ _ rfl ((var_stored HR.out _ _ _ _).alloc _) rfl ⟨rfl, var_alloc (var_below HB.out (by omega) _ _ _ _) _⟩
end Go.Proofs.YtgpbpdjamimbfaaDoor
namespace Go.Proofs.YtgpbpdjamimbfaaDoor
open Go Go.RowKit Go.Shelf

set_option maxHeartbeats 2000000 in
theorem refCrash_any (s : SlabS) (hs : s.Ok) (k : Int) (w : World) :
    Calls Tryd.prog 20 #[s.v, .int .i64 k] w fun e w' => e = .returned (s.crash k).v ∧ Below w.heap.size w w' := by
  have h1 := hs.fits
  have h2 := hs.room
  have h3 := hs.sure
  have hsz2 : (⟨s.bs.toArray⟩ : ByteArray).size = s.bs.length := ba_len _
  have hle := left_le hs k
  obtain ⟨n, hn⟩ : ∃ n, s.left k = n := ⟨_, rfl⟩
  have HE : Hid (s.crash k = { s with bs := s.bs.take n, sure := n, pow := -1 }) := Lib.hid (by unfold SlabS.crash; rw [hn])
  have hn2 : s.sure + (min (max k 0) ((s.bs.length : Int) - s.sure)).toNat = n := hn
  rw [hn] at hle
  have es := fun W => to_str s.bs n (by omega) W
  have hsz3 : (⟨(s.bs.take n).toArray⟩ : ByteArray).size = n := by rw [ba_len, List.length_take]; omega
  have hsub : 0 ≤ (s.bs.length : Int) - (s.sure : Int) := by omega
  rw [HE.out]
  clear hn hs
  unfold SlabS.v
  by_cases h0 : k < 0
  · obtain rfl : n = s.sure := by omega
    have m1 : ¬ (s.bs.length : Int) - (s.sure : Int) < 0 := by omega
    clear hn2
    go_enter Tryd.func20, Tryd.ntmps20
    go_wp2
    exact ref_end1 rfl (w.heap.size + 1) _ _ _ _ rfl (Blk.newAt _ _ (by simp) rfl) rfl ⟨rfl, b2 _ _ _ _ _⟩
  · by_cases hb : (s.bs.length : Int) - (s.sure : Int) < k
    · have hA : (s.sure : Int) + ((s.bs.length : Int) - (s.sure : Int)) = (n : Int) := by omega
      clear hn2
      go_enter Tryd.func20, Tryd.ntmps20
      go_wp2
      exact ref_end1 rfl (w.heap.size + 1) _ _ _ _ rfl (Blk.newAt _ _ (by simp) rfl) rfl ⟨rfl, b2 _ _ _ _ _⟩
    · have hA : (s.sure : Int) + k = (n : Int) := by omega
      clear hn2
      go_enter Tryd.func20, Tryd.ntmps20
      go_wp2
      exact ref_end1 rfl (w.heap.size + 1) _ _ _ _ rfl (Blk.newAt _ _ (by simp) rfl) rfl ⟨rfl, b2 _ _ _ _ _⟩
theorem conv_one (w : World) (a b : Array Value) (t : TypeId) (x : UInt8) : (convert 42 9 (.slice (some ⟨w.heap.size + 1 + 1, 0, none⟩) 1 1)).run Tryd.prog (((w.alloc (.cells a t)).alloc (.cells b t)).alloc (.cells #[.int .u8 (x.toNat : Int)] 5)).drew = .ok (.string ⟨[x].toArray⟩) (((w.alloc (.cells a t)).alloc (.cells b t)).alloc (.cells #[.int .u8 (x.toNat : Int)] 5)).drew :=
  str_rd (ok := fun _ => True) (rdB_blk (N := 1) (t := 5) (f := fun _ => bv x) (Blk.drew (Blk.newAt _ _ (by simp) (by rw [arr_list]; rfl))) (fun i hi => by
    obtain rfl : i = 0 := by omega
    rfl) rfl (by omega) (by omega) (by omega) trivial)
theorem set_parts (bs : List UInt8) (n : Nat) (x : UInt8) (h : n < bs.length) : bs.take n ++ [x] ++ bs.drop (n + 1) = bs.set n x := by
  rw [List.set_eq_take_append_cons_drop, if_pos h, List.append_assoc]; rfl
set_option maxRecDepth 100000 in
set_option maxHeartbeats 2000000 in
theorem refSpoil_any (s : SlabS) (hs : s.Ok) (k : Int) (x : UInt8) (w : World) :
    Calls Tryd.prog 22 #[s.v, .int .i64 k, .int .u8 (x.toNat : Int)] w fun e w' => e = .returned (.tuple #[(s.spoil k x).1.v, .int .i64 (s.spoil k x).2]) ∧ Below w.heap.size w w' := by
  have h1 := hs.fits
  have h2 := hs.room
  have hsz2 : (⟨s.bs.toArray⟩ : ByteArray).size = s.bs.length := ba_len _
  clear hs
  by_cases hk : k < 0
  · have HE : Hid (s.spoil k x = (s, 1)) := Lib.hid (by unfold SlabS.spoil; rw [if_pos (.inl hk)])
    have d0 : decide (k < 0) = true := decide_eq_true hk
    rw [HE.out]
    unfold SlabS.v
    go_enter Tryd.func22, Tryd.ntmps22
    go_wp2
    exact ref_end rfl (w.heap.size + 1) _ _ _ _ rfl (Blk.newAt _ _ (by simp) rfl) rfl ⟨rfl, b2 _ _ _ _ _⟩
  · have d0 : decide (k < 0) = false := decide_eq_false hk
    by_cases hk2 : (s.bs.length : Int) ≤ k
    · have HE : Hid (s.spoil k x = (s, 1)) := Lib.hid (by unfold SlabS.spoil; rw [if_pos (.inr hk2)])
      have d1 : decide ((s.bs.length : Int) ≤ k) = true := decide_eq_true hk2
      rw [HE.out]
      unfold SlabS.v
      go_enter Tryd.func22, Tryd.ntmps22
      go_wp2
      exact ref_end rfl (w.heap.size + 1) _ _ _ _ rfl (Blk.newAt _ _ (by simp) rfl) rfl ⟨rfl, b2 _ _ _ _ _⟩
    · have d1 : decide ((s.bs.length : Int) ≤ k) = false := decide_eq_false hk2
      obtain ⟨n, rfl⟩ := Int.eq_ofNat_of_zero_le (show 0 ≤ k by omega)
      have HE : Hid (s.spoil (n : Int) x = ({ s with bs := s.bs.take n ++ [x] ++ s.bs.drop (n + 1) }, 0)) := Lib.hid (by unfold SlabS.spoil; rw [if_neg (by omega), set_parts _ _ _ (by omega)]; rfl)
      have hnl : n < s.bs.length := by omega
      have e1 := fun W => to_str s.bs n (by omega) W
      have e2 := fun W => from_str s.bs (n + 1) (by omega) W
      rw [show (((n + 1 : Nat)) : Int) = (n : Int) + 1 from by omega] at e2
      have e3 := conv_one w #[.int .i64 (s.room : Int), .int .i64 (s.sure : Int), .int .i64 (nrm s.pow), .string ⟨s.bs.toArray⟩] #[.int .i64 0, .int .i64 0, .int .i64 0, .string ⟨#[]⟩] 29 x
      have e4 := fun W => add_str (s.bs.take n) [x] (by rw [List.length_take]; simp; omega) W
      have e5 := fun W => add_str (s.bs.take n ++ [x]) (s.bs.drop (n + 1)) (by simp; omega) W
      have b1 : (n : Int) ≤ 4194304 := by omega
      have b2' : (n : Int) < (s.bs.length : Int) := by omega
      have b3 : (n : Int) + 1 ≤ (s.bs.length : Int) := by omega
      have b4 : IntKind.i64.wrap ((n : Int) + 1) = (n : Int) + 1 := IntWalk.i64_in _ (by omega)
      have b5 : 0 ≤ (n : Int) + 1 := by omega
      obtain ⟨T, hT⟩ : ∃ T, s.bs.take n = T := ⟨_, rfl⟩
      obtain ⟨X, hX⟩ : ∃ X, [x] = X := ⟨_, rfl⟩
      obtain ⟨V, hV⟩ : ∃ V, s.bs.drop (n + 1) = V := ⟨_, rfl⟩
      rw [hT] at e1 HE
      rw [hT] at e4 e5
      rw [hX] at e3 HE
      rw [hX] at e4 e5
      rw [hV] at e2 HE
      rw [hV] at e5
      obtain ⟨U, hU⟩ : ∃ U, T ++ X = U := ⟨_, rfl⟩
      rw [hU] at e4 HE
      rw [hU] at e5
      obtain ⟨R, hR⟩ : ∃ R, U ++ V = R := ⟨_, rfl⟩
      rw [hR] at HE e5
      clear hT hX hV hU hR
      rw [HE.out]
      clear hk hk2 h1 h2
      unfold SlabS.v
      go_enter Tryd.func22, Tryd.ntmps22
      go_wp2
      go_region
      go_wp2
      exact ref_end rfl (w.heap.size + 1) _ _ _ _ rfl (Blk.drew (Blk.alloc (Blk.newAt _ _ (by simp) rfl) _)) rfl ⟨rfl, Below.drew (var_alloc (b2 _ _ _ _ _) _)⟩
end Go.Proofs.YtgpbpdjamimbfaaDoor
