/-
  proof's wayOf and linkOf: the parts beside a leaf's way, those of a link, the lowest first. No condition.
-/
import Derived.Test.YtphknicdllcbmaaDoorPrfRev
namespace Go.Proofs.YtphknicdllcbmaaDoor
open Go Go.RowKit Go.Shelf TreeM

def sliceLen : Value → Nat
  | .slice _ n _ => n
  | _ => 0
theorem ptc_one (p : Pt) : (ptc p).all (·.oneCell') = true := by simp [ptc, Value.oneCell']
theorem size_ptc (p : Pt) : (Tryd.prog.info? 75).map (·.size) = some (ptc p).size := by show _ = some 2; kernel_rfl
/-- A part more, behind the others. -/
theorem pt_more {w W6 : World} {B m : Nat} {v : Value} {D : List Pt} {p : Pt} (hw : B ≤ W6.heap.size) (hb : Below w.heap.size w W6) (hBw : w.heap.size ≤ B) (ho : W6.ownsRow B 75 2 v m (ptCells D)) (hm : m ≤ 1000) :
    ∃ g cap W7, (Builtin.append_ #[72, 72] 72 #[v, .slice (some ⟨W6.heap.size, 0, none⟩) 1 1]).run Tryd.prog (W6.alloc (.cells (ptc p) 75)) = .ok (.slice (some ⟨g, 0, none⟩) (m + 1) cap) W7 ∧
      W7.ownsRow B 75 2 (.slice (some ⟨g, 0, none⟩) (m + 1) cap) (m + 1) (ptCells (D ++ [p])) ∧ Below w.heap.size w W7 ∧ Below B W6 W7 := by
  have h1 : Below W6.heap.size W6 (W6.alloc (.cells (ptc p) 75)) := (Below.refl _ _).alloc (Nat.le_refl _) _
  have o6 := Turn.own (Turn.of_below h1) ho (fun i hi => by have := (ho.lt i hi).2; omega)
  obtain ⟨g, cap, W7, r, o7, gr, _⟩ := app_pt (Nat.le_trans hw h1.size) o6 p (Blk.new _ _ _) (by omega)
  have t7 : Turn (fun i => B ≤ i) W6 W7 := ((Turn.refl _ W6).alloc _).grown gr (fun i hi _ => (ho.lt i hi).1)
  have b7 : Below B W6 W7 := t7.below hw (fun i hi => by omega)
  exact ⟨g, cap, W7, r, by rw [ptCells_append]; exact o7, hb.trans (b7.mono hBw), b7⟩
set_option maxRecDepth 100000 in
set_option maxHeartbeats 1000000 in
theorem wayOf_any (a size : Nat) (ha : a < size) (hs : size ≤ 1099511627776) (w : World) :
    Calls Tryd.prog 41 #[.int .i64 (a : Int), .int .i64 (size : Int)] w fun e w' => ∃ v, e = .returned v ∧ w'.ownsRow w.heap.size 75 2 v (wayP a 0 size).length (ptCells (wayP a 0 size).reverse) ∧ Below w.heap.size w w' := by
  have hlen := wayP_length 40 a 0 size (by omega)
  have ha1 : (a : Int) ≤ 1099511627776 := by omega
  have hs1 : (size : Int) ≤ 1099511627776 := by omega
  have HHV : Hid (∀ f t W, f + 2 ≤ t → t ≤ 1099511627776 → Calls Tryd.prog 53 #[.agg (ptc (f, t)), .int .i64 (a : Int)] W fun e w' => e = .returned (.tuple #[.agg (ptc (inP a f t)), .agg (ptc (besP a f t))]) ∧ Below W.heap.size W w') := Lib.hid fun f t W h1 h2 => halve_any a f t h1 h2 (by omega) W
  go_enter Tryd.func41, Tryd.ntmps41
  go_wp2
  go_loopw [5] (fun s wr => ∃ (D : List Pt) (f t : Nat) (p : Pt), s = .slice (match s with | .slice A _ _ => A | _ => none) D.length (match s with | .slice _ _ c => c | _ => 0) ∧ D ++ wayP a f t = wayP a 0 size ∧ f ≤ a ∧ a < t ∧ t ≤ size ∧ Blk wr w.heap.size 75 (ptc (f, t)) ∧ Blk wr (w.heap.size + 1) 75 (ptc p) ∧ wr.ownsRow (w.heap.size + 2) 75 2 s D.length (ptCells D) ∧ Below w.heap.size w wr) (fun s _ => 64 - sliceLen s)
  case atStart => exact ⟨[], 0, size, (0, 0), rfl, rfl, Nat.zero_le _, ha, Nat.le_refl _, (Blk.new w _ _).alloc _, Blk.newAt _ _ (by simp) rfl, World.ownsRow_nil _ _ _ _, ((Below.refl _ _).alloc (Nat.le_refl _) _).alloc (by simp) _⟩
  case round =>
    obtain ⟨D, f, t, p, hsv, hD, hfa, hat, hts, h6, h7, ho, hb⟩ := hrel
    obtain ⟨A, c, rfl, _⟩ := own_len ho
    clear hsv
    have hDl : D.length + (wayP a f t).length = (wayP a 0 size).length := by rw [← List.length_append, hD]
    have hD40 : D.length ≤ 40 := by omega
    have k60 : wr.cell? ⟨w.heap.size, 0, none⟩ = some (.int .i64 (f : Int)) := h6.cell 0
    have k61 : wr.cell? ⟨w.heap.size, 1, none⟩ = some (.int .i64 (t : Int)) := h6.cell 1
    have ht1 : (t : Int) ≤ 1099511627776 := by omega
    have hf0 : (0 : Int) ≤ (f : Int) := by omega
    have hf1 : (f : Int) ≤ 1099511627776 := by omega
    have hsz : w.heap.size + 2 ≤ wr.heap.size := h7.lt
    have H6 := Lib.hid h6
    have H7 := Lib.hid h7
    have HO := Lib.hid ho
    have HB := Lib.hid hb
    have HSZ := Lib.hid hsz
    clear h6 h7 ho hb hsz
    by_cases hlt : f + 2 ≤ t
    · have hgt : (t : Int) - (f : Int) > 1 := by omega
      have hgt2 : (1 : Int) < (t : Int) - (f : Int) := by omega
      have hst := wayP_step (a := a) hlt
      have hin := inP_has hfa hat
      have hrg := inP_range (a := a) hlt
      have HD : Hid ((D ++ [besP a f t]) ++ wayP a (inP a f t).1 (inP a f t).2 = wayP a 0 size) := Lib.hid (by rw [← hD, hst, List.append_assoc]; rfl)
      have HV := Lib.hid (HHV.out f t wr hlt (by omega))
      have HIN := Lib.hid (And.intro hin (And.intro hrg hts))
      obtain ⟨ip, hip⟩ : ∃ ip, inP a f t = ip := ⟨_, rfl⟩
      obtain ⟨bp, hbp⟩ : ∃ bp, besP a f t = bp := ⟨_, rfl⟩
      rw [hip] at HD HV HIN
      rw [hbp] at HD HV
      clear hst hin hrg hip hbp hD hDl
      go_wp2_with (first
        | (refine wpList_load_row rfl 75 _ rfl w.heap.size rfl 75 (ptc (f, t)) (0, 0) _ H6.out Tryd.underlying75 rfl (size_ptc _) ?_)
        | (go_at_call 53; refine HV.out.mono ?_; rintro e W1 ⟨rfl, hb1⟩; have K6 := Lib.hid (H6.out.below hb1 H6.out.lt); have K7 := Lib.hid (H7.out.below hb1 H7.out.lt); have KO := Lib.hid (Turn.own (Turn.of_below hb1) HO.out (fun i hi => by have := (HO.out.lt i hi).2; omega)); have KB := Lib.hid (HB.out.trans (hb1.mono HB.out.size)); have KS := Lib.hid (Nat.le_trans HSZ.out hb1.size); clear hb1 HV H6 H7)
        | (refine wpList_store_arrW rfl 75 _ _ rfl w.heap.size (ptc ip) rfl rfl 75 _ K6.out (size_ptc _) rfl (ptc_one _) ?_; intro W2 hS2 hz2 hb2 hk2; have L6 := Lib.hid hS2; have L7 := Lib.hid (show Blk W2 (w.heap.size + 1) 75 (ptc p) from (hk2 _ (by omega)).trans K7.out); have LO := Lib.hid (Turn.own (S := fun b => b = w.heap.size) ⟨hb2.os, hb2.tape, hb2.output, hb2.size, fun b _ hn => hk2 b hn⟩ KO.out (fun i hi => by have := (KO.out.lt i hi).1; omega)); have LB := Lib.hid (KB.out.trans hb2); have LS : Hid (w.heap.size + 2 ≤ W2.heap.size) := Lib.hid (by have := KS.out; omega); clear hS2 hz2 hb2 hk2 K6 K7)
        | (refine wpList_store_arrW rfl 75 _ _ rfl (w.heap.size + 1) (ptc bp) rfl rfl 75 _ L7.out (size_ptc _) rfl (ptc_one _) ?_; intro W3 hS3 hz3 hb3 hk3; have M7 := Lib.hid hS3; have M6 := Lib.hid (show Blk W3 w.heap.size 75 (ptc ip) from (hk3 _ (by omega)).trans L6.out); have MO := Lib.hid (Turn.own (S := fun b => b = w.heap.size + 1) ⟨hb3.os, hb3.tape, hb3.output, hb3.size, fun b _ hn => hk3 b hn⟩ LO.out (fun i hi => by have := (LO.out.lt i hi).1; omega)); have MB := Lib.hid (LB.out.trans (hb3.mono (Nat.le_succ _))); have MS : Hid (w.heap.size + 2 ≤ W3.heap.size) := Lib.hid (by have := LS.out; omega); clear hS3 hz3 hb3 hk3 L6 L7; obtain ⟨gx, cap, W4, hr4, ho4, hb4, hbb4⟩ := pt_more (w := w) (p := bp) MS.out MB.out (Nat.le_add_right _ 2) MO.out (by omega); have R4 := Lib.hid hr4; have N6 := Lib.hid (M6.out.below hbb4 (by omega)); have N7 := Lib.hid (M7.out.below hbb4 (by omega)); have NO := Lib.hid ho4; have NB := Lib.hid hb4; clear hr4 ho4 hb4 hbb4)
        | (refine wpList_load_row rfl 75 _ rfl (w.heap.size + 1) rfl 75 (ptc bp) (0, 0) _ M7.out Tryd.underlying75 rfl (size_ptc _) ?_)
        | (guard_target = wpList _ _ _ (Oper.mk _ (.buildSlice _ _ _) _ _ _ _ :: _) _ _; refine wpList_build_pt rfl _ rfl bp rfl ?_)
        | (at_builtin; refine wpList_append_run rfl (.tmp 23) (.tmp 25) _ _ rfl _ _ rfl rfl _ _ R4.out ?_))
      go_roundw
      case rel =>
        obtain ⟨h1, h2, h3⟩ := HIN.out
        exact ⟨D ++ [bp], ip.1, ip.2, bp, by rw [List.length_append]; rfl, HD.out, h1.1, h1.2, by omega, N6.out, N7.out, by rw [List.length_append]; exact NO.out, NB.out⟩
      case measure => simp [sliceLen]; omega
    · have hgt : ¬ ((t : Int) - (f : Int) > 1) := by omega
      rw [wayP_end hlt, List.append_nil] at hD
      have HDD := Lib.hid hD
      clear hD hDl
      have HRV := Lib.hid (reverse_any HO.out (by omega))
      have HRN : Hid (∀ i, (Value.slice A D.length c).ownBlock = some i → w.heap.size + 2 ≤ i) := Lib.hid fun i hi => (HO.out.lt i hi).1
      go_wp2_with (go_at_call 54; refine HRV.out.mono ?_; rintro e W1 ⟨rfl, ho1, ht1⟩; have HE := Lib.hid (And.intro ho1 (HB.out.trans (ht1.below HB.out.size (fun i hi h => by have := HRN.out i h; omega)))); clear ho1 ht1)
      go_ret
      refine ⟨_, rfl, ?_, HE.out.2⟩
      rw [← HDD.out]
      exact own_mono HE.out.1 (Nat.le_add_right _ 2)
set_option maxRecDepth 100000 in
set_option maxHeartbeats 1000000 in
theorem linkOf_any (m size : Nat) (h1m : 1 ≤ m) (hms : m ≤ size) (hs : size ≤ 1099511627776) (w : World) :
    Calls Tryd.prog 42 #[.int .i64 (m : Int), .int .i64 (size : Int)] w fun e w' => ∃ v, e = .returned v ∧ w'.ownsRow w.heap.size 75 2 v (linkP m 0 size).length (ptCells (linkP m 0 size).reverse) ∧ Below w.heap.size w w' := by
  have hlen := linkP_length 40 m 0 size (by omega) (by omega) hms
  have ha1 : (m : Int) ≤ 1099511627776 := by omega
  have hm1 : (1 : Int) ≤ (m : Int) := by omega
  have hm2 : (((m - 1 : Nat)) : Int) = (m : Int) - 1 := by omega
  have hs1 : (size : Int) ≤ 1099511627776 := by omega
  have HHV : Hid (∀ f t W, f + 2 ≤ t → t ≤ 1099511627776 → Calls Tryd.prog 53 #[.agg (ptc (f, t)), .int .i64 ((m : Int) - 1)] W fun e w' => e = .returned (.tuple #[.agg (ptc (inP (m - 1) f t)), .agg (ptc (besP (m - 1) f t))]) ∧ Below W.heap.size W w') := Lib.hid fun f t W h1 h2 => by
    have := halve_any (m - 1) f t h1 h2 (by omega) W
    rw [hm2] at this
    exact this
  go_enter Tryd.func42, Tryd.ntmps42
  go_wp2
  go_loopw [5] (fun s wr => ∃ (D : List Pt) (f t : Nat) (p : Pt), s = .slice (match s with | .slice A _ _ => A | _ => none) D.length (match s with | .slice _ _ c => c | _ => 0) ∧ D ++ linkP m f t = linkP m 0 size ∧ f < m ∧ m ≤ t ∧ t ≤ size ∧ Blk wr w.heap.size 75 (ptc (f, t)) ∧ Blk wr (w.heap.size + 1) 75 (ptc p) ∧ wr.ownsRow (w.heap.size + 2) 75 2 s D.length (ptCells D) ∧ Below w.heap.size w wr) (fun s _ => 64 - sliceLen s)
  case atStart => exact ⟨[], 0, size, (0, 0), rfl, rfl, by omega, hms, Nat.le_refl _, (Blk.new w _ _).alloc _, Blk.newAt _ _ (by simp) rfl, World.ownsRow_nil _ _ _ _, ((Below.refl _ _).alloc (Nat.le_refl _) _).alloc (by simp) _⟩
  case round =>
    obtain ⟨D, f, t, p, hsv, hD, hfa, hat, hts, h6, h7, ho, hb⟩ := hrel
    obtain ⟨A, c, rfl, _⟩ := own_len ho
    clear hsv
    have hDl : D.length + (linkP m f t).length = (linkP m 0 size).length := by rw [← List.length_append, hD]
    have hD40 : D.length ≤ 41 := by omega
    have k60 : wr.cell? ⟨w.heap.size, 0, none⟩ = some (.int .i64 (f : Int)) := h6.cell 0
    have k61 : wr.cell? ⟨w.heap.size, 1, none⟩ = some (.int .i64 (t : Int)) := h6.cell 1
    have ht1 : (t : Int) ≤ 1099511627776 := by omega
    have hf0 : (0 : Int) ≤ (f : Int) := by omega
    have hf1 : (f : Int) ≤ 1099511627776 := by omega
    have hsz : w.heap.size + 2 ≤ wr.heap.size := h7.lt
    have H6 := Lib.hid h6
    have H7 := Lib.hid h7
    have HO := Lib.hid ho
    have HB := Lib.hid hb
    have HSZ := Lib.hid hsz
    clear h6 h7 ho hb hsz
    by_cases hlt0 : m < t
    · have hlt : f + 2 ≤ t := by omega
      have hgt : (t : Int) > (m : Int) := by omega
      have hgt2 : (m : Int) < (t : Int) := by omega
      have hst := linkP_step hlt0 hlt
      have hin := inP_has (a := m - 1) (f := f) (t := t) (by omega) (by omega)
      have hrg := inP_range (a := m - 1) hlt
      have HD : Hid ((D ++ [besP (m - 1) f t]) ++ linkP m (inP (m - 1) f t).1 (inP (m - 1) f t).2 = linkP m 0 size) := Lib.hid (by rw [← hD, hst, List.append_assoc]; rfl)
      have HV := Lib.hid (HHV.out f t wr hlt (by omega))
      have HIN := Lib.hid (And.intro hin (And.intro hrg hts))
      obtain ⟨ip, hip⟩ : ∃ ip, inP (m - 1) f t = ip := ⟨_, rfl⟩
      obtain ⟨bp, hbp⟩ : ∃ bp, besP (m - 1) f t = bp := ⟨_, rfl⟩
      rw [hip] at HD HV HIN
      rw [hbp] at HD HV
      clear hst hin hrg hip hbp hD hDl
      go_wp2_with (first
        | (refine wpList_load_row rfl 75 _ rfl w.heap.size rfl 75 (ptc (f, t)) (0, 0) _ H6.out Tryd.underlying75 rfl (size_ptc _) ?_)
        | (go_at_call 53; refine HV.out.mono ?_; rintro e W1 ⟨rfl, hb1⟩; have K6 := Lib.hid (H6.out.below hb1 H6.out.lt); have K7 := Lib.hid (H7.out.below hb1 H7.out.lt); have KO := Lib.hid (Turn.own (Turn.of_below hb1) HO.out (fun i hi => by have := (HO.out.lt i hi).2; omega)); have KB := Lib.hid (HB.out.trans (hb1.mono HB.out.size)); have KS := Lib.hid (Nat.le_trans HSZ.out hb1.size); clear hb1 HV H6 H7)
        | (refine wpList_store_arrW rfl 75 _ _ rfl w.heap.size (ptc ip) rfl rfl 75 _ K6.out (size_ptc _) rfl (ptc_one _) ?_; intro W2 hS2 hz2 hb2 hk2; have L6 := Lib.hid hS2; have L7 := Lib.hid (show Blk W2 (w.heap.size + 1) 75 (ptc p) from (hk2 _ (by omega)).trans K7.out); have LO := Lib.hid (Turn.own (S := fun b => b = w.heap.size) ⟨hb2.os, hb2.tape, hb2.output, hb2.size, fun b _ hn => hk2 b hn⟩ KO.out (fun i hi => by have := (KO.out.lt i hi).1; omega)); have LB := Lib.hid (KB.out.trans hb2); have LS : Hid (w.heap.size + 2 ≤ W2.heap.size) := Lib.hid (by have := KS.out; omega); clear hS2 hz2 hb2 hk2 K6 K7)
        | (refine wpList_store_arrW rfl 75 _ _ rfl (w.heap.size + 1) (ptc bp) rfl rfl 75 _ L7.out (size_ptc _) rfl (ptc_one _) ?_; intro W3 hS3 hz3 hb3 hk3; have M7 := Lib.hid hS3; have M6 := Lib.hid (show Blk W3 w.heap.size 75 (ptc ip) from (hk3 _ (by omega)).trans L6.out); have MO := Lib.hid (Turn.own (S := fun b => b = w.heap.size + 1) ⟨hb3.os, hb3.tape, hb3.output, hb3.size, fun b _ hn => hk3 b hn⟩ LO.out (fun i hi => by have := (LO.out.lt i hi).1; omega)); have MB := Lib.hid (LB.out.trans (hb3.mono (Nat.le_succ _))); have MS : Hid (w.heap.size + 2 ≤ W3.heap.size) := Lib.hid (by have := LS.out; omega); clear hS3 hz3 hb3 hk3 L6 L7; obtain ⟨gx, cap, W4, hr4, ho4, hb4, hbb4⟩ := pt_more (w := w) (p := bp) MS.out MB.out (Nat.le_add_right _ 2) MO.out (by omega); have R4 := Lib.hid hr4; have N6 := Lib.hid (M6.out.below hbb4 (by omega)); have N7 := Lib.hid (M7.out.below hbb4 (by omega)); have NO := Lib.hid ho4; have NB := Lib.hid hb4; clear hr4 ho4 hb4 hbb4)
        | (refine wpList_load_row rfl 75 _ rfl (w.heap.size + 1) rfl 75 (ptc bp) (0, 0) _ M7.out Tryd.underlying75 rfl (size_ptc _) ?_)
        | (guard_target = wpList _ _ _ (Oper.mk _ (.buildSlice _ _ _) _ _ _ _ :: _) _ _; refine wpList_build_pt rfl _ rfl bp rfl ?_)
        | (at_builtin; refine wpList_append_run rfl (.tmp 22) (.tmp 24) _ _ rfl _ _ rfl rfl _ _ R4.out ?_))
      go_roundw
      case rel =>
        obtain ⟨h1, h2, h3⟩ := HIN.out
        exact ⟨D ++ [bp], ip.1, ip.2, bp, by rw [List.length_append]; rfl, HD.out, by omega, by omega, by omega, N6.out, N7.out, by rw [List.length_append]; exact NO.out, NB.out⟩
      case measure => simp [sliceLen]; omega
    · have hgt : ¬ ((t : Int) > (m : Int)) := by omega
      have hgt2 : ¬ ((m : Int) < (t : Int)) := by omega
      rw [linkP_end hlt0] at hD
      by_cases hf : f > 0
      · have hfi : (f : Int) > 0 := by omega
        have hfi2 : (0 : Int) < (f : Int) := by omega
        rw [if_pos hf] at hD
        have HDD := Lib.hid hD
        obtain ⟨gx, cap, W4, hr4, ho4, hb4, hbb4⟩ := pt_more (w := w) (p := (f, t)) HSZ.out HB.out (Nat.le_add_right _ 2) HO.out (by omega)
        have R4 := Lib.hid hr4
        have HRV := Lib.hid (reverse_any ho4 (by omega))
        have HRN : Hid (∀ i, (Value.slice (some ⟨gx, 0, none⟩) (D.length + 1) cap).ownBlock = some i → w.heap.size + 2 ≤ i) := Lib.hid fun i hi => (ho4.lt i hi).1
        have HB4 := Lib.hid hb4
        clear hD hDl hr4 ho4 hb4 hbb4
        go_wp2_with (first
          | (refine wpList_load_row rfl 75 _ rfl w.heap.size rfl 75 (ptc (f, t)) (0, 0) _ H6.out Tryd.underlying75 rfl (size_ptc _) ?_)
          | (guard_target = wpList _ _ _ (Oper.mk _ (.buildSlice _ _ _) _ _ _ _ :: _) _ _; refine wpList_build_pt rfl _ rfl (f, t) rfl ?_)
          | (at_builtin; refine wpList_append_run rfl (.tmp 29) (.tmp 31) _ _ rfl _ _ rfl rfl _ _ R4.out ?_)
          | (go_at_call 54; refine HRV.out.mono ?_; rintro e W1 ⟨rfl, ho1, ht1⟩; have HE := Lib.hid (And.intro ho1 (HB4.out.trans (ht1.below HB4.out.size (fun i hi h => by have := HRN.out i h; omega)))); clear ho1 ht1))
        go_ret
        refine ⟨_, rfl, ?_, HE.out.2⟩
        rw [← HDD.out, List.length_append]
        exact own_mono HE.out.1 (Nat.le_add_right _ 2)
      · have hfi : ¬ ((f : Int) > 0) := by omega
        have hfi2 : ¬ ((0 : Int) < (f : Int)) := by omega
        rw [if_neg hf, List.append_nil] at hD
        have HDD := Lib.hid hD
        have HRV := Lib.hid (reverse_any HO.out (by omega))
        have HRN : Hid (∀ i, (Value.slice A D.length c).ownBlock = some i → w.heap.size + 2 ≤ i) := Lib.hid fun i hi => (HO.out.lt i hi).1
        clear hD hDl
        go_wp2_with (go_at_call 54; refine HRV.out.mono ?_; rintro e W1 ⟨rfl, ho1, ht1⟩; have HE := Lib.hid (And.intro ho1 (HB.out.trans (ht1.below HB.out.size (fun i hi h => by have := HRN.out i h; omega)))); clear ho1 ht1)
        go_ret
        refine ⟨_, rfl, ?_, HE.out.2⟩
        rw [← HDD.out]
        exact own_mono HE.out.1 (Nat.le_add_right _ 2)
end Go.Proofs.YtphknicdllcbmaaDoor
