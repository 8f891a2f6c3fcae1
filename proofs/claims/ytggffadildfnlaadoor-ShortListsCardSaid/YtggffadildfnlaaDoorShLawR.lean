/-
  ShortRoots: of every cut, list and place, in whatever memory in which the tables lie. No condition.
-/
import Derived.Test.YtggffadildfnlaaDoorShRefW
import Derived.Test.YtggffadildfnlaaDoorShFew
import Derived.Test.YtggffadildfnlaaDoorShLeads
import Derived.Test.YtggffadildfnlaaDoorShGuard
namespace Go.Proofs.YtggffadildfnlaaDoor
open Go Go.RowKit Go.Shelf TreeM

theorem OutAt.rdP {W : World} {B : Nat} {v : Value} {ts : List (List UInt8)} (h : OutAt W B v ts) (hB : B ≤ W.heap.size) : ∃ A c, v = .slice A ts.length c ∧ ts.length ≤ c ∧ RdP W (fun b => b < W.heap.size) A ts := by
  obtain ⟨vs, h1, h3⟩ := h
  obtain ⟨A, c, rfl, hc⟩ := own_len h1
  refine ⟨A, c, rfl, hc, fun k hk => ?_⟩
  obtain ⟨u, hu, hr⟩ := h3 k hk
  rcases h1.2 with h0 | ⟨g, cap, cur, e, hB', hblk, hle, _, hsz, htk⟩
  · have := h0.1
    injection this with _ e
    omega
  · injection e with e1 e2 e3
    subst e1
    refine ⟨⟨g, 0, none⟩, u, rfl, Blk.lt hblk, ?_, hr.mono fun b hb => Nat.lt_of_lt_of_le hb hB⟩
    rw [add_zero_block, Blk.cell hblk]
    rw [← htk, List.getElem?_take] at hu
    split at hu
    · rwa [Array.getElem?_toList] at hu
    · cases hu
theorem TxtRow.rdS {W : World} {B : Nat} {v : Value} {ts : List (List UInt8)} (h : TxtRow W B v ts) : ∃ A c, v = .slice A ts.length c ∧ ts.length ≤ c ∧ RdS W A ts := by
  obtain ⟨A, c, rfl, hc⟩ := own_len h
  refine ⟨A, c, rfl, hc, fun k hk => ?_⟩
  rcases h.2 with h0 | ⟨g, cap, cur, e, hB', hblk, hle, _, hsz, htk⟩
  · have := h0.1
    injection this with _ e
    omega
  · injection e with e1 e2 e3
    subst e1
    refine ⟨⟨g, 0, none⟩, rfl, Blk.lt hblk, ?_⟩
    rw [add_zero_block, Blk.cell hblk]
    have hu : (ts.map fun t => Value.string ⟨t.toArray⟩)[k]? = some (.string ⟨(ts.getD k []).toArray⟩) := by
      rw [List.getElem?_map, List.getD_eq_getElem?_getD, List.getElem?_eq_getElem hk]
      rfl
    rw [← htk, List.getElem?_take] at hu
    split at hu
    · rwa [Array.getElem?_toList] at hu
    · cases hu
theorem sh_own_rd {w : World} {B n : Nat} {v : Value} {l : List D} (h : w.ownsRow B 23 32 v n (idCells l)) (hm : n ≤ 4398046511104) : RdI w (fun b => b < w.heap.size) v l := (own_rd h hm).mono fun _ hb => hb.2.2
theorem leadsV_own (c : Int) (n : Nat) (ps : List (List UInt8)) (a : Nat) (hn : ps.length = n) (ha : a < n) (hm : n ≤ 1000000) : leadsV c (ps.getD a []) (a : Int) (n : Int) (wayC c ps a) (rootC c ps) = true := by
  have h := wayC_leads c n ps a hn ha
  unfold leadsV
  rw [if_neg (by omega), Int.toNat_natCast, Int.toNat_natCast, decide_eq_true h.1, Bool.true_and, h.2]
  unfold rootC
  simp
set_option maxRecDepth 100000 in
set_option maxHeartbeats 8000000 in
theorem roots_range_c (c : Int) (A : Option Addr) (n cp : Nat) (ps : List (List UInt8)) (a : Int) (w : World) (hT : Tables w) (hn : ps.length = n) (hm : n ≤ 140737488351232) (hr : RdP w (fun b => b < w.heap.size) A ps) (hcw : c ≤ 31) (har : a < 0 ∨ ((fewL ps).length : Int) ≤ a) :
    Calls Tryd.prog 6 #[.int .i64 c, .slice A n cp, .int .i64 a] w fun e w' => e = .returned (.bool true) ∧ Below w.heap.size w w' := by
  have HCU := Lib.hid (cuts_any w hT)
  have HFW : Hid (∀ W, Below w.heap.size w W → Calls Tryd.prog 19 #[.slice A n cp] W fun e w' => ∃ v4 v5, e = .returned (.tuple #[v4, v5]) ∧ OutAt w' W.heap.size v4 (fewL ps) ∧ TxtRow w' W.heap.size v5 (fewL ps) ∧ Below W.heap.size W w') := Lib.hid fun W hb => few_any A n cp ps W hn hm (hr.oldS hb)
  have hfl := fewL_length ps
  have hfe := fewL_each ps
  obtain ⟨fs, hfs⟩ : ∃ fs, fewL ps = fs := ⟨_, rfl⟩
  rw [hfs] at HFW hfl hfe har
  obtain ⟨m, hm0⟩ : ∃ m, fs.length = m := ⟨_, rfl⟩
  rw [hm0] at har
  have HT := Lib.hid hT
  have HFE := Lib.hid hfe
  have HFL := Lib.hid hfl
  have HM := Lib.hid hm0
  clear hr hn hm hfs hT hfe
  have hc32 : decide (c ≥ 32) = false := decide_eq_false (by omega)
  have hc32b : ¬ (32 : Int) ≤ c := by omega
  go_enter Tryd.func6, Tryd.ntmps6
  go_upto_region 4 with (first
    | (go_at_call 18; refine HCU.out.mono ?_; rintro e W1 ⟨rfl, hb1⟩; have HB1 := Lib.hid hb1; clear hb1 HCU)
    | (go_at_call 19; refine (HFW.out _ HB1.out).mono ?_; rintro e W2 ⟨v4, v5, rfl, ho4, ho5, hb2⟩; have HO := Lib.hid (And.intro (ho4.rdP hb2.size) ho5.rdS); have HB2 := Lib.hid (HB1.out.trans (hb2.mono HB1.out.size)); clear hb2 ho4 ho5 HFW))
  obtain ⟨⟨A4, c4, rfl, hc4, hr4⟩, ⟨A5, c5, rfl, hc5, hr5⟩⟩ := HO.out
  clear HO
  rw [HM.out] at hc4 hc5 ⊢
  have hm20 : m ≤ 20 := by have := HFL.out; omega
  have hle : ∀ p ∈ fs, p.length ≤ 1000000 := fun p hp => Nat.le_trans (HFE.out p hp) (by omega)
  have HRO : Hid (∀ W, Below W2.heap.size W2 W → Calls Tryd.prog 20 #[.int .i64 c, .slice A4 m c4] W fun e w' => e = .returned (.agg (arr 32 fun i => bv (rootC c fs i))) ∧ Below W.heap.size W w') := Lib.hid fun W hb => root_any c m fs A4 c4 W HM.out (by omega) hc4 hle (HT.out.below (HB2.out.trans (hb.mono HB2.out.size))) (hr4.oldS hb)
  have HRR : Hid (∀ W, Below W2.heap.size W2 W → Calls Tryd.prog 21 #[.int .i64 c, .slice A5 m c5] W fun e w' => e = .returned (.agg (arr 32 fun i => bv (rootC c fs i))) ∧ Below W.heap.size W w') := Lib.hid fun W hb => refRootS_any c m fs A5 c5 W HM.out (by omega) hc5 hle (hr5.oldS hb)
  have HEN : Hid (∀ W, Below W2.heap.size W2 W → Calls Tryd.prog 23 #[.slice A4 m c4] W fun e w' => ∃ g', e = .returned (.slice (some ⟨g', 0, none⟩) m m) ∧ RdI w' (fun b => b < w'.heap.size) (.slice (some ⟨g', 0, none⟩) m m) (fs.map leafD) ∧ Below W.heap.size W w') := Lib.hid fun W hb => (entries_any A4 m c4 fs HM.out (by omega) W (HT.out.below (HB2.out.trans (hb.mono HB2.out.size))) (hr4.oldS hb)).mono (by
    rintro e w' ⟨g', he, _, hr, hb', hlt⟩
    exact ⟨g', he, hr.mono fun b h => by rw [h]; exact hlt, hb'⟩)
  have HTR : Hid (∀ v W, Below W2.heap.size W2 W → RdI W (fun b => b < W.heap.size) v (fs.map leafD) → Calls Tryd.prog 22 #[v] W fun e w' => e = .returned (.agg (arr 32 fun i => bv (mth (fs.map leafD) i))) ∧ Below W.heap.size W w') := Lib.hid fun v W hb h => troot_any v _ W (HT.out.below (HB2.out.trans (hb.mono HB2.out.size))) h (by rw [List.length_map, HM.out]; omega)
  have hq1 := fun W => neq_id (rootC c fs) (rootC c fs) W
  simp only [beq_self_eq_true, Bool.not_true] at hq1
  have HX2 := Lib.hid (Below.refl W2.heap.size W2)
  have HWY := Lib.hid fun W => wayS_range c m a A4 c4 W (by omega)
  generalize rootC c fs = R at *
  generalize mth (fs.map leafD) = M at *
  generalize fs.map leafD = ls at *
  have har' : a < 0 ∨ (m : Int) ≤ a := by omega
  clear hle hr4 hr5 hc4 hc5 har
  by_cases h0 : a < 0
  · have d0 : decide (a < 0) = true := decide_eq_true h0
    clear har'
    go_wp2_with (first
      | (go_at_call 20; refine (HRO.out _ HX2.out).mono ?_; rintro e W3 ⟨rfl, hb3⟩; have HX3 := Lib.hid (HX2.out.trans (hb3.mono (Nat.le_refl _))); clear hb3 HX2)
      | (go_at_call 21; refine (HRR.out _ HX3.out).mono ?_; rintro e W4 ⟨rfl, hb4⟩; have HX4 := Lib.hid (HX3.out.trans (hb4.mono HX3.out.size)); clear hb4)
      | (go_at_call 24; refine (HWY.out _).mono ?_; rintro e W8 ⟨rfl, h8⟩; obtain rfl := h8.symm))
    go_ret
    exact ⟨rfl, HB2.out.trans (HX4.out.mono HB2.out.size)⟩
  · have d0 : decide (a < 0) = false := decide_eq_false h0
    have h1 : (m : Int) ≤ a := by omega
    have d1 : decide ((m : Int) ≤ a) = true := decide_eq_true h1
    clear har'
    go_wp2_with (first
      | (go_at_call 20; refine (HRO.out _ HX2.out).mono ?_; rintro e W3 ⟨rfl, hb3⟩; have HX3 := Lib.hid (HX2.out.trans (hb3.mono (Nat.le_refl _))); clear hb3 HX2)
      | (go_at_call 21; refine (HRR.out _ HX3.out).mono ?_; rintro e W4 ⟨rfl, hb4⟩; have HX4 := Lib.hid (HX3.out.trans (hb4.mono HX3.out.size)); clear hb4)
      | (go_at_call 24; refine (HWY.out _).mono ?_; rintro e W8 ⟨rfl, h8⟩; obtain rfl := h8.symm))
    go_ret
    exact ⟨rfl, HB2.out.trans (HX4.out.mono HB2.out.size)⟩
set_option maxRecDepth 100000 in
set_option maxHeartbeats 8000000 in
theorem roots_range_w (c : Int) (A : Option Addr) (n cp : Nat) (ps : List (List UInt8)) (a : Int) (w : World) (hT : Tables w) (hn : ps.length = n) (hm : n ≤ 140737488351232) (hr : RdP w (fun b => b < w.heap.size) A ps) (hcw : 31 < c) (har : a < 0 ∨ ((fewL ps).length : Int) ≤ a) :
    Calls Tryd.prog 6 #[.int .i64 c, .slice A n cp, .int .i64 a] w fun e w' => e = .returned (.bool true) ∧ Below w.heap.size w w' := by
  have HCU := Lib.hid (cuts_any w hT)
  have HFW : Hid (∀ W, Below w.heap.size w W → Calls Tryd.prog 19 #[.slice A n cp] W fun e w' => ∃ v4 v5, e = .returned (.tuple #[v4, v5]) ∧ OutAt w' W.heap.size v4 (fewL ps) ∧ TxtRow w' W.heap.size v5 (fewL ps) ∧ Below W.heap.size W w') := Lib.hid fun W hb => few_any A n cp ps W hn hm (hr.oldS hb)
  have hfl := fewL_length ps
  have hfe := fewL_each ps
  obtain ⟨fs, hfs⟩ : ∃ fs, fewL ps = fs := ⟨_, rfl⟩
  rw [hfs] at HFW hfl hfe har
  obtain ⟨m, hm0⟩ : ∃ m, fs.length = m := ⟨_, rfl⟩
  rw [hm0] at har
  have HT := Lib.hid hT
  have HFE := Lib.hid hfe
  have HFL := Lib.hid hfl
  have HM := Lib.hid hm0
  clear hr hn hm hfs hT hfe
  have hc32 : decide (c ≥ 32) = true := decide_eq_true (by omega)
  have hc32b : (32 : Int) ≤ c := by omega
  go_enter Tryd.func6, Tryd.ntmps6
  go_upto_region 4 with (first
    | (go_at_call 18; refine HCU.out.mono ?_; rintro e W1 ⟨rfl, hb1⟩; have HB1 := Lib.hid hb1; clear hb1 HCU)
    | (go_at_call 19; refine (HFW.out _ HB1.out).mono ?_; rintro e W2 ⟨v4, v5, rfl, ho4, ho5, hb2⟩; have HO := Lib.hid (And.intro (ho4.rdP hb2.size) ho5.rdS); have HB2 := Lib.hid (HB1.out.trans (hb2.mono HB1.out.size)); clear hb2 ho4 ho5 HFW))
  obtain ⟨⟨A4, c4, rfl, hc4, hr4⟩, ⟨A5, c5, rfl, hc5, hr5⟩⟩ := HO.out
  clear HO
  rw [HM.out] at hc4 hc5 ⊢
  have hm20 : m ≤ 20 := by have := HFL.out; omega
  have hle : ∀ p ∈ fs, p.length ≤ 1000000 := fun p hp => Nat.le_trans (HFE.out p hp) (by omega)
  have HRO : Hid (∀ W, Below W2.heap.size W2 W → Calls Tryd.prog 20 #[.int .i64 c, .slice A4 m c4] W fun e w' => e = .returned (.agg (arr 32 fun i => bv (rootC c fs i))) ∧ Below W.heap.size W w') := Lib.hid fun W hb => root_any c m fs A4 c4 W HM.out (by omega) hc4 hle (HT.out.below (HB2.out.trans (hb.mono HB2.out.size))) (hr4.oldS hb)
  have HRR : Hid (∀ W, Below W2.heap.size W2 W → Calls Tryd.prog 21 #[.int .i64 c, .slice A5 m c5] W fun e w' => e = .returned (.agg (arr 32 fun i => bv (rootC c fs i))) ∧ Below W.heap.size W w') := Lib.hid fun W hb => refRootS_any c m fs A5 c5 W HM.out (by omega) hc5 hle (hr5.oldS hb)
  have HEN : Hid (∀ W, Below W2.heap.size W2 W → Calls Tryd.prog 23 #[.slice A4 m c4] W fun e w' => ∃ g', e = .returned (.slice (some ⟨g', 0, none⟩) m m) ∧ RdI w' (fun b => b < w'.heap.size) (.slice (some ⟨g', 0, none⟩) m m) (fs.map leafD) ∧ Below W.heap.size W w') := Lib.hid fun W hb => (entries_any A4 m c4 fs HM.out (by omega) W (HT.out.below (HB2.out.trans (hb.mono HB2.out.size))) (hr4.oldS hb)).mono (by
    rintro e w' ⟨g', he, _, hr, hb', hlt⟩
    exact ⟨g', he, hr.mono fun b h => by rw [h]; exact hlt, hb'⟩)
  have HTR : Hid (∀ v W, Below W2.heap.size W2 W → RdI W (fun b => b < W.heap.size) v (fs.map leafD) → Calls Tryd.prog 22 #[v] W fun e w' => e = .returned (.agg (arr 32 fun i => bv (mth (fs.map leafD) i))) ∧ Below W.heap.size W w') := Lib.hid fun v W hb h => troot_any v _ W (HT.out.below (HB2.out.trans (hb.mono HB2.out.size))) h (by rw [List.length_map, HM.out]; omega)
  have hq1 := fun W => neq_id (rootC c fs) (rootC c fs) W
  simp only [beq_self_eq_true, Bool.not_true] at hq1
  have hq2 := fun W => neq_id (rootC c fs) (mth (fs.map leafD)) W
  rw [show (id32 (rootC c fs) == id32 (mth (fs.map leafD))) = true from by rw [rootC_whole c (by unfold cnt; omega) m fs HM.out]; simp] at hq2
  simp only [Bool.not_true] at hq2
  have HX2 := Lib.hid (Below.refl W2.heap.size W2)
  have HWY := Lib.hid fun W => wayS_range c m a A4 c4 W (by omega)
  generalize rootC c fs = R at *
  generalize mth (fs.map leafD) = M at *
  generalize fs.map leafD = ls at *
  have har' : a < 0 ∨ (m : Int) ≤ a := by omega
  clear hle hr4 hr5 hc4 hc5 har
  by_cases h0 : a < 0
  · have d0 : decide (a < 0) = true := decide_eq_true h0
    clear har'
    go_wp2_with (first
      | (go_at_call 20; refine (HRO.out _ HX2.out).mono ?_; rintro e W3 ⟨rfl, hb3⟩; have HX3 := Lib.hid (HX2.out.trans (hb3.mono (Nat.le_refl _))); clear hb3 HX2)
      | (go_at_call 21; refine (HRR.out _ HX3.out).mono ?_; rintro e W4 ⟨rfl, hb4⟩; have HX4 := Lib.hid (HX3.out.trans (hb4.mono HX3.out.size)); clear hb4)
      | (go_at_call 20; refine (HRO.out _ HX4.out).mono ?_; rintro e W5 ⟨rfl, hb5⟩; have HX5 := Lib.hid (HX4.out.trans (hb5.mono HX4.out.size)); clear hb5)
      | (go_at_call 23; refine (HEN.out _ HX5.out).mono ?_; rintro e W6 ⟨g', rfl, hr6, hb6⟩; have HR6 := Lib.hid hr6; have HX6 := Lib.hid (HX5.out.trans (hb6.mono HX5.out.size)); clear hb6 hr6)
      | (go_at_call 22; refine (HTR.out _ _ HX6.out HR6.out).mono ?_; rintro e W7 ⟨rfl, hb7⟩; have HX7 := Lib.hid (HX6.out.trans (hb7.mono HX6.out.size)); clear hb7)
      | (go_at_call 24; refine (HWY.out _).mono ?_; rintro e W8 ⟨rfl, h8⟩; obtain rfl := h8.symm))
    go_ret
    exact ⟨rfl, HB2.out.trans (HX7.out.mono HB2.out.size)⟩
  · have d0 : decide (a < 0) = false := decide_eq_false h0
    have h1 : (m : Int) ≤ a := by omega
    have d1 : decide ((m : Int) ≤ a) = true := decide_eq_true h1
    clear har'
    go_wp2_with (first
      | (go_at_call 20; refine (HRO.out _ HX2.out).mono ?_; rintro e W3 ⟨rfl, hb3⟩; have HX3 := Lib.hid (HX2.out.trans (hb3.mono (Nat.le_refl _))); clear hb3 HX2)
      | (go_at_call 21; refine (HRR.out _ HX3.out).mono ?_; rintro e W4 ⟨rfl, hb4⟩; have HX4 := Lib.hid (HX3.out.trans (hb4.mono HX3.out.size)); clear hb4)
      | (go_at_call 20; refine (HRO.out _ HX4.out).mono ?_; rintro e W5 ⟨rfl, hb5⟩; have HX5 := Lib.hid (HX4.out.trans (hb5.mono HX4.out.size)); clear hb5)
      | (go_at_call 23; refine (HEN.out _ HX5.out).mono ?_; rintro e W6 ⟨g', rfl, hr6, hb6⟩; have HR6 := Lib.hid hr6; have HX6 := Lib.hid (HX5.out.trans (hb6.mono HX5.out.size)); clear hb6 hr6)
      | (go_at_call 22; refine (HTR.out _ _ HX6.out HR6.out).mono ?_; rintro e W7 ⟨rfl, hb7⟩; have HX7 := Lib.hid (HX6.out.trans (hb7.mono HX6.out.size)); clear hb7)
      | (go_at_call 24; refine (HWY.out _).mono ?_; rintro e W8 ⟨rfl, h8⟩; obtain rfl := h8.symm))
    go_ret
    exact ⟨rfl, HB2.out.trans (HX7.out.mono HB2.out.size)⟩
set_option maxRecDepth 100000 in
set_option maxHeartbeats 8000000 in
theorem roots_in_c (c : Int) (A : Option Addr) (n cp : Nat) (ps : List (List UInt8)) (a : Nat) (w : World) (hT : Tables w) (hn : ps.length = n) (hm : n ≤ 140737488351232) (hr : RdP w (fun b => b < w.heap.size) A ps) (hcw : c ≤ 31) (har : a < (fewL ps).length) :
    Calls Tryd.prog 6 #[.int .i64 c, .slice A n cp, .int .i64 (a : Int)] w fun e w' => e = .returned (.bool true) ∧ Below w.heap.size w w' := by
  have HCU := Lib.hid (cuts_any w hT)
  have HFW : Hid (∀ W, Below w.heap.size w W → Calls Tryd.prog 19 #[.slice A n cp] W fun e w' => ∃ v4 v5, e = .returned (.tuple #[v4, v5]) ∧ OutAt w' W.heap.size v4 (fewL ps) ∧ TxtRow w' W.heap.size v5 (fewL ps) ∧ Below W.heap.size W w') := Lib.hid fun W hb => few_any A n cp ps W hn hm (hr.oldS hb)
  have hfl := fewL_length ps
  have hfe := fewL_each ps
  obtain ⟨fs, hfs⟩ : ∃ fs, fewL ps = fs := ⟨_, rfl⟩
  rw [hfs] at HFW hfl hfe har
  obtain ⟨m, hm0⟩ : ∃ m, fs.length = m := ⟨_, rfl⟩
  rw [hm0] at har
  have HT := Lib.hid hT
  have HFE := Lib.hid hfe
  have HFL := Lib.hid hfl
  have HM := Lib.hid hm0
  clear hr hn hm hfs hT hfe
  have hc32 : decide (c ≥ 32) = false := decide_eq_false (by omega)
  have hc32b : ¬ (32 : Int) ≤ c := by omega
  go_enter Tryd.func6, Tryd.ntmps6
  go_upto_region 4 with (first
    | (go_at_call 18; refine HCU.out.mono ?_; rintro e W1 ⟨rfl, hb1⟩; have HB1 := Lib.hid hb1; clear hb1 HCU)
    | (go_at_call 19; refine (HFW.out _ HB1.out).mono ?_; rintro e W2 ⟨v4, v5, rfl, ho4, ho5, hb2⟩; have HO := Lib.hid (And.intro (ho4.rdP hb2.size) ho5.rdS); have HB2 := Lib.hid (HB1.out.trans (hb2.mono HB1.out.size)); clear hb2 ho4 ho5 HFW))
  obtain ⟨⟨A4, c4, rfl, hc4, hr4⟩, ⟨A5, c5, rfl, hc5, hr5⟩⟩ := HO.out
  clear HO
  rw [HM.out] at hc4 hc5 ⊢
  have hm20 : m ≤ 20 := by have := HFL.out; omega
  have hle : ∀ p ∈ fs, p.length ≤ 1000000 := fun p hp => Nat.le_trans (HFE.out p hp) (by omega)
  have HRO : Hid (∀ W, Below W2.heap.size W2 W → Calls Tryd.prog 20 #[.int .i64 c, .slice A4 m c4] W fun e w' => e = .returned (.agg (arr 32 fun i => bv (rootC c fs i))) ∧ Below W.heap.size W w') := Lib.hid fun W hb => root_any c m fs A4 c4 W HM.out (by omega) hc4 hle (HT.out.below (HB2.out.trans (hb.mono HB2.out.size))) (hr4.oldS hb)
  have HRR : Hid (∀ W, Below W2.heap.size W2 W → Calls Tryd.prog 21 #[.int .i64 c, .slice A5 m c5] W fun e w' => e = .returned (.agg (arr 32 fun i => bv (rootC c fs i))) ∧ Below W.heap.size W w') := Lib.hid fun W hb => refRootS_any c m fs A5 c5 W HM.out (by omega) hc5 hle (hr5.oldS hb)
  have HEN : Hid (∀ W, Below W2.heap.size W2 W → Calls Tryd.prog 23 #[.slice A4 m c4] W fun e w' => ∃ g', e = .returned (.slice (some ⟨g', 0, none⟩) m m) ∧ RdI w' (fun b => b < w'.heap.size) (.slice (some ⟨g', 0, none⟩) m m) (fs.map leafD) ∧ Below W.heap.size W w') := Lib.hid fun W hb => (entries_any A4 m c4 fs HM.out (by omega) W (HT.out.below (HB2.out.trans (hb.mono HB2.out.size))) (hr4.oldS hb)).mono (by
    rintro e w' ⟨g', he, _, hr, hb', hlt⟩
    exact ⟨g', he, hr.mono fun b h => by rw [h]; exact hlt, hb'⟩)
  have HTR : Hid (∀ v W, Below W2.heap.size W2 W → RdI W (fun b => b < W.heap.size) v (fs.map leafD) → Calls Tryd.prog 22 #[v] W fun e w' => e = .returned (.agg (arr 32 fun i => bv (mth (fs.map leafD) i))) ∧ Below W.heap.size W w') := Lib.hid fun v W hb h => troot_any v _ W (HT.out.below (HB2.out.trans (hb.mono HB2.out.size))) h (by rw [List.length_map, HM.out]; omega)
  have hq1 := fun W => neq_id (rootC c fs) (rootC c fs) W
  simp only [beq_self_eq_true, Bool.not_true] at hq1
  have HX2 := Lib.hid (Below.refl W2.heap.size W2)
  have HWY : Hid (∀ W, Below W2.heap.size W2 W → Calls Tryd.prog 24 #[.int .i64 c, .slice A4 m c4, .int .i64 (a : Int)] W fun e w' => ∃ v', e = .returned (.tuple #[v', .int .i64 0]) ∧ w'.ownsRow W.heap.size 23 32 v' (wayC c fs a).length (idCells (wayC c fs a)) ∧ Below W.heap.size W w') := Lib.hid fun W hb => wayS_in c m fs a A4 c4 W HM.out har (by omega) hc4 hle (HT.out.below (HB2.out.trans (hb.mono HB2.out.size))) (hr4.oldS hb)
  have hlv := leadsV_own c m fs a HM.out har (by omega)
  have hwl := wayC_length c m fs a HM.out har (by omega)
  have HRW2 : Hid (∀ W, Below W2.heap.size W2 W → Calls Tryd.prog 28 #[.int .i64 c, .slice A5 m c5, .int .i64 (a : Int)] W fun e w' => ∃ v', e = .returned v' ∧ w'.ownsRow W.heap.size 23 32 v' (wayC c fs a).length (idCells (wayC c fs a)) ∧ Below W.heap.size W w') := Lib.hid fun W hb => refWayS_any c m fs a A5 c5 W HM.out har (by omega) hc5 hle (hr5.oldS hb)
  obtain ⟨ad4, u4, rfl, hok4, hcu4, hru4⟩ := hr4 a (by rw [HM.out]; exact har)
  obtain ⟨ad5, rfl, hok5, hcu5⟩ := hr5 a (by rw [HM.out]; exact har)
  obtain ⟨p, hp⟩ : ∃ p, fs.getD a [] = p := ⟨_, rfl⟩
  have hpl : p.length ≤ 1000000 := by
    rw [← hp, List.getD_eq_getElem?_getD, List.getElem?_eq_getElem (by rw [HM.out]; exact har)]
    exact hle _ (List.getElem_mem _)
  rw [hp] at hru4 hcu5 hlv
  obtain ⟨Au, cu, rfl, hcl, _⟩ := id hru4
  obtain ⟨nu, hnu⟩ : ∃ nu, p.length = nu := ⟨_, rfl⟩
  rw [hnu] at hru4 hcu4 hpl
  have HLE2 : Hid (∀ v W, Below W2.heap.size W2 W → RdI W (fun b => b < W.heap.size) v (wayC c fs a) → Calls Tryd.prog 29 #[.int .i64 c, .slice Au nu cu, .int .i64 (a : Int), .int .i64 (m : Int), v, .agg (arr 32 fun i => bv (rootC c fs i))] W fun e w' => e = .returned (.bool true) ∧ Below W.heap.size W w') := Lib.hid fun v W hb h => by
    have := leadsS_any c Au nu cu p (a : Int) (m : Int) v (wayC c fs a) (rootC c fs) W (HT.out.below (HB2.out.trans (hb.mono HB2.out.size))) ((hru4.kept fun a x ha h => (hb.cell (p := a) ha).trans h).mono fun b hb' => Nat.lt_of_lt_of_le hb' hb.size) hnu hpl h (by omega)
    rw [hlv] at this
    exact this
  have HSU2 : Hid (∀ W, Below W2.heap.size W2 W → Calls Tryd.prog 25 #[.int .i64 c, .slice Au nu cu] W fun e w' => e = .returned (.agg (arr 32 fun i => bv ((cutD c (sha p)) i))) ∧ Below W.heap.size W w') := Lib.hid fun W hb => csum_any c _ p (by omega) W (HT.out.below (HB2.out.trans (hb.mono HB2.out.size))) ((hru4.kept fun a x ha h => (hb.cell (p := a) ha).trans h).mono fun b hb' => Nat.lt_of_lt_of_le hb' hb.size)
  have HRS := Lib.hid fun W => refSumS_any c p (by omega) W
  have hq3 := fun W => eql_id (cutD c (sha p)) (cutD c (sha p)) W
  simp only [beq_self_eq_true] at hq3
  obtain ⟨s, hs⟩ : ∃ s, (⟨p.toArray⟩ : ByteArray) = s := ⟨_, rfl⟩
  rw [hs] at hcu5 HRS
  have HC2 : Hid (∀ W, Below W2.heap.size W2 W → W.cell? (ad4.add a) = some (.slice Au nu cu) ∧ W.cell? (ad5.add a) = some (.string s)) := Lib.hid fun W hb => ⟨(hb.cell (p := ad4.add a) (by rw [block_add]; exact hok4)).trans hcu4, (hb.cell (p := ad5.add a) (by rw [block_add]; exact hok5)).trans hcu5⟩
  have HSA2 : Hid (∀ v v' W, RdI W (fun b => b < W.heap.size) v (wayC c fs a) → RdI W (fun b => b < W.heap.size) v' (wayC c fs a) → Calls Tryd.prog 27 #[v, v'] W fun e w' => e = .returned (.bool true) ∧ Below W.heap.size W w') := Lib.hid fun v v' W h h' => same_true v v' _ W h h' (by omega)
  generalize rootC c fs = R at *
  generalize cutD c (sha p) = S at *
  generalize mth (fs.map leafD) = M at *
  generalize fs.map leafD = ls at *
  generalize wayC c fs a = P at *
  have HWL := Lib.hid hwl
  have ham : (a : Int) < (m : Int) := by omega
  have hamn : ¬ m ≤ a := by omega
  have ha0 : (0 : Int) ≤ (a : Int) := by omega
  have hmi : (m : Int) ≤ 20 := by omega
  have d0 : decide ((a : Int) < 0) = false := decide_eq_false (by omega)
  have d1 : decide ((m : Int) ≤ (a : Int)) = false := decide_eq_false (by omega)
  have HQ3 := Lib.hid hq3
  clear hle hok4 hok5 hcu4 hcu5 hru4 hc4 hc5 hlv hwl hp hpl hnu hcl hs hq3 hr4 hr5
  go_upto_region 10 with (first
    | (go_at_call 20; refine (HRO.out _ HX2.out).mono ?_; rintro e W3 ⟨rfl, hb3⟩; have HX3 := Lib.hid (HX2.out.trans (hb3.mono (Nat.le_refl _))); clear hb3 HX2)
    | (go_at_call 21; refine (HRR.out _ HX3.out).mono ?_; rintro e W4 ⟨rfl, hb4⟩; have HX4 := Lib.hid (HX3.out.trans (hb4.mono HX3.out.size)); clear hb4)
    | (go_at_call 24; refine (HWY.out _ HX4.out).mono ?_; rintro e W8 ⟨v6, rfl, ho8, hb8⟩; have HO8 := Lib.hid ho8; have HX8 := Lib.hid (HX4.out.trans (hb8.mono HX4.out.size)); clear hb8 ho8))
  have hq3 := HQ3.out
  have HR8 := Lib.hid (sh_own_rd HO8.out (by have := HWL.out; omega))
  have hbX : Below W8.heap.size W8 W8.drew := (Below.refl _ _).drew
  have HC1 : Hid (∀ W, Below W8.heap.size W8 W → W.cell? (ad4.add a) = some (.slice Au nu cu) ∧ W.cell? (ad5.add a) = some (.string s)) := Lib.hid fun W hb => HC2.out W (HX8.out.trans (hb.mono HX8.out.size))
  have HSU : Hid (∀ W, Below W8.heap.size W8 W → Calls Tryd.prog 25 #[.int .i64 c, .slice Au nu cu] W fun e w' => e = .returned (.agg (arr 32 fun i => bv (S i))) ∧ Below W.heap.size W w') := Lib.hid fun W hb => HSU2.out W (HX8.out.trans (hb.mono HX8.out.size))
  have HRW : Hid (∀ W, Below W8.heap.size W8 W → Calls Tryd.prog 28 #[.int .i64 c, .slice (some ad5) m c5, .int .i64 (a : Int)] W fun e w' => ∃ v', e = .returned v' ∧ w'.ownsRow W.heap.size 23 32 v' P.length (idCells P) ∧ Below W.heap.size W w') := Lib.hid fun W hb => HRW2.out W (HX8.out.trans (hb.mono HX8.out.size))
  have HRO3 : Hid (∀ W, Below W8.heap.size W8 W → Calls Tryd.prog 20 #[.int .i64 c, .slice (some ad4) m c4] W fun e w' => e = .returned (.agg (arr 32 fun i => bv (R i))) ∧ Below W.heap.size W w') := Lib.hid fun W hb => HRO.out W (HX8.out.trans (hb.mono HX8.out.size))
  have HLE : Hid (∀ W, Below W8.heap.size W8 W → Calls Tryd.prog 29 #[.int .i64 c, .slice Au nu cu, .int .i64 (a : Int), .int .i64 (m : Int), v6, .agg (arr 32 fun i => bv (R i))] W fun e w' => e = .returned (.bool true) ∧ Below W.heap.size W w') := Lib.hid fun W hb => HLE2.out v6 W (HX8.out.trans (hb.mono HX8.out.size)) ((HR8.out.old hb).mono fun b hb' => Nat.lt_of_lt_of_le hb' hb.size)
  have HSA : Hid (∀ v' W, Below W8.heap.size W8 W → RdI W (fun b => b < W.heap.size) v' P → Calls Tryd.prog 27 #[v6, v'] W fun e w' => e = .returned (.bool true) ∧ Below W.heap.size W w') := Lib.hid fun v' W hb h' => HSA2.out v6 v' W ((HR8.out.old hb).mono fun b hb' => Nat.lt_of_lt_of_le hb' hb.size) h'
  have HB8 := Lib.hid (HB2.out.trans (HX8.out.mono HB2.out.size))
  refine wp_region_held_drew (S := fun W' => W'.cell? (ad4.add a) = some (.slice Au nu cu) ∧ W'.cell? (ad5.add a) = some (.string s)) (by kernel_rfl) ?_ (fun hHeld => ?_)
  · exact HC1.out _ hbX
  refine wpAnyH_take (i := 0) (oi := ⟨some 61, _, _, _, _, _⟩) (v := ?_) rfl (by kernel_rfl) (by kernel_rfl) (by kernel_rfl) (fun _ _ _ h => h) (Or.inl ⟨by rfl, ?_⟩) (by assumption) ?_
  rotate_left
  · intro w hSw; (try dsimp only at hSw); go_simp; try (with_reducible rfl)
  rotate_left 0
  try simp only [Act.put, List.setIfInBounds_toArray, List.set_cons_zero, List.set_cons_succ]
  refine wpAnyH_take (i := 1) (oi := ⟨some 62, _, _, _, _, _⟩) (v := ?_) rfl (by kernel_rfl) (by kernel_rfl) (by kernel_rfl) (fun _ _ _ h => h) (Or.inl ⟨by rfl, ?_⟩) (by assumption) ?_
  rotate_left
  · intro w hSw; (try dsimp only at hSw); go_simp; try (with_reducible rfl)
  rotate_left 0
  try simp only [Act.put, List.setIfInBounds_toArray, List.set_cons_zero, List.set_cons_succ]
  refine wpAnyH_take (i := 2) (oi := ⟨some 63, _, _, _, _, _⟩) (v := ?_) rfl (by kernel_rfl) (by kernel_rfl) (by kernel_rfl) (fun _ _ _ h => h) (Or.inl ⟨by rfl, ?_⟩) (by assumption) ?_
  rotate_left
  · intro w hSw; (try dsimp only at hSw); go_simp; try (with_reducible rfl)
  rotate_left 0
  try simp only [Act.put, List.setIfInBounds_toArray, List.set_cons_zero, List.set_cons_succ]
  refine wpAnyH_take (i := 3) (oi := ⟨some 64, _, _, _, _, _⟩) (v := ?_) rfl (by kernel_rfl) (by kernel_rfl) (by kernel_rfl) (fun _ _ _ h => h) (Or.inl ⟨by rfl, ?_⟩) (by assumption) ?_
  rotate_left
  · intro w hSw; (try dsimp only at hSw); go_simp; try (with_reducible rfl)
  rotate_left 0
  try simp only [Act.put, List.setIfInBounds_toArray, List.set_cons_zero, List.set_cons_succ]
  refine wpAnyH_take (i := 4) (oi := ⟨some 65, _, _, _, _, _⟩) (v := ?_) rfl (by kernel_rfl) (by kernel_rfl) (by kernel_rfl) (fun _ _ _ h => h) (Or.inl ⟨by rfl, ?_⟩) (by assumption) ?_
  rotate_left
  · intro w hSw; (try dsimp only at hSw); go_simp; try (with_reducible rfl)
  rotate_left 0
  try simp only [Act.put, List.setIfInBounds_toArray, List.set_cons_zero, List.set_cons_succ]
  refine wpAnyH_take (i := 5) (oi := ⟨some 66, _, _, _, _, _⟩) (v := ?_) rfl (by kernel_rfl) (by kernel_rfl) (by kernel_rfl) (fun _ _ _ h => h) (Or.inl ⟨by rfl, ?_⟩) (by assumption) ?_
  rotate_left
  · intro w hSw; (try dsimp only at hSw); go_simp; try (with_reducible rfl)
  rotate_left 0
  try simp only [Act.put, List.setIfInBounds_toArray, List.set_cons_zero, List.set_cons_succ]
  refine wpAnyH_take (i := 6) (oi := ⟨some 67, _, _, _, _, _⟩) (v := ?_) rfl (by kernel_rfl) (by kernel_rfl) (by kernel_rfl) (fun _ _ _ h => h) (Or.inl ⟨by rfl, ?_⟩) (by assumption) ?_
  rotate_left
  · intro w hSw; (try dsimp only at hSw); go_simp; try (with_reducible rfl)
  rotate_left 0
  try simp only [Act.put, List.setIfInBounds_toArray, List.set_cons_zero, List.set_cons_succ]
  refine wpAnyH_take (i := 7) (oi := ⟨some 68, _, _, _, _, _⟩) (v := (.slice Au nu cu)) rfl (by kernel_rfl) (by kernel_rfl) (by kernel_rfl) (fun _ _ _ h => h) (yieldsIf_load_one' (by rfl) 50 _ rfl (ad4.add a) rfl _ _ (fun _ hS => hS.1) Tryd.underlying50 rfl) (by assumption) ?_
  try simp only [Act.put, List.setIfInBounds_toArray, List.set_cons_zero, List.set_cons_succ]
  refine wpAnyH_take (i := 9) (oi := ⟨some 70, _, _, _, _, _⟩) (v := ?_) rfl (by kernel_rfl) (by kernel_rfl) (by kernel_rfl) (fun _ _ _ h => h) (Or.inl ⟨by rfl, ?_⟩) (by assumption) ?_
  rotate_left
  · intro w hSw; (try dsimp only at hSw); go_simp; try (with_reducible rfl)
  rotate_left 0
  try simp only [Act.put, List.setIfInBounds_toArray, List.set_cons_zero, List.set_cons_succ]
  refine wpAnyH_take (i := 10) (oi := ⟨some 71, _, _, _, _, _⟩) (v := ?_) rfl (by kernel_rfl) (by kernel_rfl) (by kernel_rfl) (fun _ _ _ h => h) (Or.inl ⟨by rfl, ?_⟩) (by assumption) ?_
  rotate_left
  · intro w hSw; (try dsimp only at hSw); go_simp; try (with_reducible rfl)
  rotate_left 0
  try simp only [Act.put, List.setIfInBounds_toArray, List.set_cons_zero, List.set_cons_succ]
  refine wpAnyH_take (i := 11) (oi := ⟨some 72, _, _, _, _, _⟩) (v := ?_) rfl (by kernel_rfl) (by kernel_rfl) (by kernel_rfl) (fun _ _ _ h => h) (Or.inl ⟨by rfl, ?_⟩) (by assumption) ?_
  rotate_left
  · intro w hSw; (try dsimp only at hSw); go_simp; try (with_reducible rfl)
  rotate_left 0
  try simp only [Act.put, List.setIfInBounds_toArray, List.set_cons_zero, List.set_cons_succ]
  refine wpAnyH_take (i := 12) (oi := ⟨some 73, _, _, _, _, _⟩) (v := ?_) rfl (by kernel_rfl) (by kernel_rfl) (by kernel_rfl) (fun _ _ _ h => h) (Or.inl ⟨by rfl, ?_⟩) (by assumption) ?_
  rotate_left
  · intro w hSw; (try dsimp only at hSw); go_simp; try (with_reducible rfl)
  rotate_left 0
  try simp only [Act.put, List.setIfInBounds_toArray, List.set_cons_zero, List.set_cons_succ]
  refine wpAnyH_take (i := 13) (oi := ⟨some 74, _, _, _, _, _⟩) (v := (.string s)) rfl (by kernel_rfl) (by kernel_rfl) (by kernel_rfl) (fun _ _ _ h => h) (yieldsIf_load_one' (by rfl) 9 _ rfl (ad5.add a) rfl _ _ (fun _ hS => hS.2) Tryd.underlying9 rfl) (by assumption) ?_
  try simp only [Act.put, List.setIfInBounds_toArray, List.set_cons_zero, List.set_cons_succ]
  refine wpAnyH_ready (rs := [8]) (by kernel_rfl) (by simp) ?_
  refine (AllReadyH.cons (o := ⟨some 69, _, _, _, _, _⟩) rfl (fun K hK => ?_) AllReadyH.nil)
  (try rw [if_pos (by rfl)])
  go_simp
  refine (HSU.out _ hbX).mono ?_
  rintro e Wa ⟨rfl, hbQ⟩
  replace hbX := hbX.trans (hbQ.mono hbX.size)
  clear hbQ
  try dsimp only
  refine hK.out _ _ (HC1.out _ hbX) (fun hHeld => ?_)
  clear hK K
  try simp only [Act.put, List.setIfInBounds_toArray, List.set_cons_zero, List.set_cons_succ]
  refine wpAnyH_ready (rs := [14]) (by kernel_rfl) (by simp) ?_
  refine (AllReadyH.cons (o := ⟨some 75, _, _, _, _, _⟩) rfl (fun K hK => ?_) AllReadyH.nil)
  (try rw [if_pos (by rfl)])
  go_simp
  refine (HRS.out _).mono ?_
  rintro e Wb ⟨rfl, hbQ⟩
  replace hbX := hbX.trans (hbQ.mono hbX.size)
  clear hbQ
  try dsimp only
  refine hK.out _ _ (HC1.out _ hbX) (fun hHeld => ?_)
  clear hK K
  try simp only [Act.put, List.setIfInBounds_toArray, List.set_cons_zero, List.set_cons_succ]
  refine wpAnyH_take (i := 15) (oi := ⟨some 76, _, _, _, _, _⟩) (v := ?_) rfl (by kernel_rfl) (by kernel_rfl) (by kernel_rfl) (fun _ _ _ h => h) (Or.inl ⟨by rfl, ?_⟩) (by assumption) ?_
  rotate_left
  · intro w hSw; (try dsimp only at hSw); go_simp; try (with_reducible rfl)
  rotate_left 0
  try simp only [Act.put, List.setIfInBounds_toArray, List.set_cons_zero, List.set_cons_succ]
  refine wpAnyH_take (i := 16) (oi := ⟨some 77, _, _, _, _, _⟩) (v := ?_) rfl (by kernel_rfl) (by kernel_rfl) (by kernel_rfl) (fun _ _ _ h => h) (Or.inl ⟨by rfl, ?_⟩) (by assumption) ?_
  rotate_left
  · intro w hSw; (try dsimp only at hSw); go_simp; try (with_reducible rfl)
  rotate_left 0
  try simp only [Act.put, List.setIfInBounds_toArray, List.set_cons_zero, List.set_cons_succ]
  refine wpAnyH_take (i := 17) (oi := ⟨some 78, _, _, _, _, _⟩) (v := ?_) rfl (by kernel_rfl) (by kernel_rfl) (by kernel_rfl) (fun _ _ _ h => h) (Or.inl ⟨by rfl, ?_⟩) (by assumption) ?_
  rotate_left
  · intro w hSw; (try dsimp only at hSw); go_simp; try (with_reducible rfl)
  rotate_left 0
  try simp only [Act.put, List.setIfInBounds_toArray, List.set_cons_zero, List.set_cons_succ]
  refine wpAnyH_take (i := 18) (oi := ⟨some 79, _, _, _, _, _⟩) (v := ?_) rfl (by kernel_rfl) (by kernel_rfl) (by kernel_rfl) (fun _ _ _ h => h) (Or.inl ⟨by rfl, ?_⟩) (by assumption) ?_
  rotate_left
  · intro w hSw; (try dsimp only at hSw); go_simp; try (with_reducible rfl)
  rotate_left 0
  try simp only [Act.put, List.setIfInBounds_toArray, List.set_cons_zero, List.set_cons_succ]
  refine wpAnyH_take (i := 19) (oi := ⟨some 80, _, _, _, _, _⟩) (v := ?_) rfl (by kernel_rfl) (by kernel_rfl) (by kernel_rfl) (fun _ _ _ h => h) (Or.inl ⟨by rfl, ?_⟩) (by assumption) ?_
  rotate_left
  · intro w hSw; (try dsimp only at hSw); go_simp; try (with_reducible rfl)
  rotate_left 0
  try simp only [Act.put, List.setIfInBounds_toArray, List.set_cons_zero, List.set_cons_succ]
  refine wpAnyH_take (i := 20) (oi := ⟨some 81, _, _, _, _, _⟩) (v := ?_) rfl (by kernel_rfl) (by kernel_rfl) (by kernel_rfl) (fun _ _ _ h => h) (Or.inl ⟨by rfl, ?_⟩) (by assumption) ?_
  rotate_left
  · intro w hSw; (try dsimp only at hSw); go_simp; try (with_reducible rfl)
  rotate_left 0
  try simp only [Act.put, List.setIfInBounds_toArray, List.set_cons_zero, List.set_cons_succ]
  refine wpAnyH_take (i := 21) (oi := ⟨some 82, _, _, _, _, _⟩) (v := ?_) rfl (by kernel_rfl) (by kernel_rfl) (by kernel_rfl) (fun _ _ _ h => h) (Or.inl ⟨by rfl, ?_⟩) (by assumption) ?_
  rotate_left
  · intro w hSw; (try dsimp only at hSw); go_simp; try (with_reducible rfl)
  rotate_left 0
  try simp only [Act.put, List.setIfInBounds_toArray, List.set_cons_zero, List.set_cons_succ]
  refine wpAnyH_ready (rs := [22]) (by kernel_rfl) (by simp) ?_
  refine (AllReadyH.cons (o := ⟨some 83, _, _, _, _, _⟩) rfl (fun K hK => ?_) AllReadyH.nil)
  (try rw [if_pos (by rfl)])
  go_simp
  refine (HRW.out _ hbX).mono ?_
  rintro e Wc ⟨v9, rfl, ho9, hbQ⟩
  have hr9 := sh_own_rd ho9 (by have := HWL.out; omega)
  clear ho9
  have HS9 := Lib.hid (HSA.out v9 _ (hbX.trans (hbQ.mono hbX.size)) hr9)
  clear hr9
  replace hbX := hbX.trans (hbQ.mono hbX.size)
  clear hbQ
  try dsimp only
  refine hK.out _ _ (HC1.out _ hbX) (fun hHeld => ?_)
  clear hK K
  try simp only [Act.put, List.setIfInBounds_toArray, List.set_cons_zero, List.set_cons_succ]
  refine wpAnyH_ready (rs := [23]) (by kernel_rfl) (by simp) ?_
  refine (AllReadyH.cons (o := ⟨some 84, _, _, _, _, _⟩) rfl (fun K hK => ?_) AllReadyH.nil)
  (try rw [if_pos (by rfl)])
  go_simp
  refine (HS9.out).mono ?_
  rintro e Wd ⟨rfl, hbQ⟩
  replace hbX := hbX.trans (hbQ.mono hbX.size)
  clear hbQ
  try dsimp only
  refine hK.out _ _ (HC1.out _ hbX) (fun hHeld => ?_)
  clear hK K
  try simp only [Act.put, List.setIfInBounds_toArray, List.set_cons_zero, List.set_cons_succ]
  refine wpAnyH_take (i := 24) (oi := ⟨some 85, _, _, _, _, _⟩) (v := ?_) rfl (by kernel_rfl) (by kernel_rfl) (by kernel_rfl) (fun _ _ _ h => h) (Or.inl ⟨by rfl, ?_⟩) (by assumption) ?_
  rotate_left
  · intro w hSw; (try dsimp only at hSw); go_simp; try (with_reducible rfl)
  rotate_left 0
  try simp only [Act.put, List.setIfInBounds_toArray, List.set_cons_zero, List.set_cons_succ]
  refine wpAnyH_take (i := 25) (oi := ⟨some 86, _, _, _, _, _⟩) (v := ?_) rfl (by kernel_rfl) (by kernel_rfl) (by kernel_rfl) (fun _ _ _ h => h) (Or.inl ⟨by rfl, ?_⟩) (by assumption) ?_
  rotate_left
  · intro w hSw; (try dsimp only at hSw); go_simp; try (with_reducible rfl)
  rotate_left 0
  try simp only [Act.put, List.setIfInBounds_toArray, List.set_cons_zero, List.set_cons_succ]
  refine wpAnyH_take (i := 26) (oi := ⟨some 87, _, _, _, _, _⟩) (v := ?_) rfl (by kernel_rfl) (by kernel_rfl) (by kernel_rfl) (fun _ _ _ h => h) (Or.inl ⟨by rfl, ?_⟩) (by assumption) ?_
  rotate_left
  · intro w hSw; (try dsimp only at hSw); go_simp; try (with_reducible rfl)
  rotate_left 0
  try simp only [Act.put, List.setIfInBounds_toArray, List.set_cons_zero, List.set_cons_succ]
  refine wpAnyH_take (i := 27) (oi := ⟨some 88, _, _, _, _, _⟩) (v := ?_) rfl (by kernel_rfl) (by kernel_rfl) (by kernel_rfl) (fun _ _ _ h => h) (Or.inl ⟨by rfl, ?_⟩) (by assumption) ?_
  rotate_left
  · intro w hSw; (try dsimp only at hSw); go_simp; try (with_reducible rfl)
  rotate_left 0
  try simp only [Act.put, List.setIfInBounds_toArray, List.set_cons_zero, List.set_cons_succ]
  refine wpAnyH_take (i := 28) (oi := ⟨some 89, _, _, _, _, _⟩) (v := ?_) rfl (by kernel_rfl) (by kernel_rfl) (by kernel_rfl) (fun _ _ _ h => h) (Or.inl ⟨by rfl, ?_⟩) (by assumption) ?_
  rotate_left
  · intro w hSw; (try dsimp only at hSw); go_simp; try (with_reducible rfl)
  rotate_left 0
  try simp only [Act.put, List.setIfInBounds_toArray, List.set_cons_zero, List.set_cons_succ]
  refine wpAnyH_take (i := 29) (oi := ⟨some 90, _, _, _, _, _⟩) (v := ?_) rfl (by kernel_rfl) (by kernel_rfl) (by kernel_rfl) (fun _ _ _ h => h) (Or.inl ⟨by rfl, ?_⟩) (by assumption) ?_
  rotate_left
  · intro w hSw; (try dsimp only at hSw); go_simp; try (with_reducible rfl)
  rotate_left 0
  try simp only [Act.put, List.setIfInBounds_toArray, List.set_cons_zero, List.set_cons_succ]
  refine wpAnyH_take (i := 30) (oi := ⟨some 91, _, _, _, _, _⟩) (v := (.slice Au nu cu)) rfl (by kernel_rfl) (by kernel_rfl) (by kernel_rfl) (fun _ _ _ h => h) (yieldsIf_load_one' (by rfl) 50 _ rfl (ad4.add a) rfl _ _ (fun _ hS => hS.1) Tryd.underlying50 rfl) (by assumption) ?_
  try simp only [Act.put, List.setIfInBounds_toArray, List.set_cons_zero, List.set_cons_succ]
  refine wpAnyH_take (i := 31) (oi := ⟨some 92, _, _, _, _, _⟩) (v := ?_) rfl (by kernel_rfl) (by kernel_rfl) (by kernel_rfl) (fun _ _ _ h => h) (Or.inl ⟨by rfl, ?_⟩) (by assumption) ?_
  rotate_left
  · intro w hSw; (try dsimp only at hSw); go_simp; try (with_reducible rfl)
  rotate_left 0
  try simp only [Act.put, List.setIfInBounds_toArray, List.set_cons_zero, List.set_cons_succ]
  refine wpAnyH_take (i := 32) (oi := ⟨some 93, _, _, _, _, _⟩) (v := ?_) rfl (by kernel_rfl) (by kernel_rfl) (by kernel_rfl) (fun _ _ _ h => h) (Or.inl ⟨by rfl, ?_⟩) (by assumption) ?_
  rotate_left
  · intro w hSw; (try dsimp only at hSw); go_simp; try (with_reducible rfl)
  rotate_left 0
  try simp only [Act.put, List.setIfInBounds_toArray, List.set_cons_zero, List.set_cons_succ]
  refine wpAnyH_take (i := 33) (oi := ⟨some 94, _, _, _, _, _⟩) (v := ?_) rfl (by kernel_rfl) (by kernel_rfl) (by kernel_rfl) (fun _ _ _ h => h) (Or.inl ⟨by rfl, ?_⟩) (by assumption) ?_
  rotate_left
  · intro w hSw; (try dsimp only at hSw); go_simp; try (with_reducible rfl)
  rotate_left 0
  try simp only [Act.put, List.setIfInBounds_toArray, List.set_cons_zero, List.set_cons_succ]
  refine wpAnyH_take (i := 34) (oi := ⟨some 95, _, _, _, _, _⟩) (v := ?_) rfl (by kernel_rfl) (by kernel_rfl) (by kernel_rfl) (fun _ _ _ h => h) (Or.inl ⟨by rfl, ?_⟩) (by assumption) ?_
  rotate_left
  · intro w hSw; (try dsimp only at hSw); go_simp; try (with_reducible rfl)
  rotate_left 0
  try simp only [Act.put, List.setIfInBounds_toArray, List.set_cons_zero, List.set_cons_succ]
  refine wpAnyH_take (i := 35) (oi := ⟨some 96, _, _, _, _, _⟩) (v := ?_) rfl (by kernel_rfl) (by kernel_rfl) (by kernel_rfl) (fun _ _ _ h => h) (Or.inl ⟨by rfl, ?_⟩) (by assumption) ?_
  rotate_left
  · intro w hSw; (try dsimp only at hSw); go_simp; try (with_reducible rfl)
  rotate_left 0
  try simp only [Act.put, List.setIfInBounds_toArray, List.set_cons_zero, List.set_cons_succ]
  refine wpAnyH_take (i := 36) (oi := ⟨some 97, _, _, _, _, _⟩) (v := ?_) rfl (by kernel_rfl) (by kernel_rfl) (by kernel_rfl) (fun _ _ _ h => h) (Or.inl ⟨by rfl, ?_⟩) (by assumption) ?_
  rotate_left
  · intro w hSw; (try dsimp only at hSw); go_simp; try (with_reducible rfl)
  rotate_left 0
  try simp only [Act.put, List.setIfInBounds_toArray, List.set_cons_zero, List.set_cons_succ]
  refine wpAnyH_ready (rs := [37]) (by kernel_rfl) (by simp) ?_
  refine (AllReadyH.cons (o := ⟨some 98, _, _, _, _, _⟩) rfl (fun K hK => ?_) AllReadyH.nil)
  (try rw [if_pos (by rfl)])
  go_simp
  refine (HRO3.out _ hbX).mono ?_
  rintro e We ⟨rfl, hbQ⟩
  replace hbX := hbX.trans (hbQ.mono hbX.size)
  clear hbQ
  try dsimp only
  refine hK.out _ _ (HC1.out _ hbX) (fun hHeld => ?_)
  clear hK K
  try simp only [Act.put, List.setIfInBounds_toArray, List.set_cons_zero, List.set_cons_succ]
  refine wpAnyH_ready (rs := [38]) (by kernel_rfl) (by simp) ?_
  refine (AllReadyH.cons (o := ⟨some 99, _, _, _, _, _⟩) rfl (fun K hK => ?_) AllReadyH.nil)
  (try rw [if_pos (by rfl)])
  go_simp
  refine (HLE.out _ hbX).mono ?_
  rintro e Wf ⟨rfl, hbQ⟩
  replace hbX := hbX.trans (hbQ.mono hbX.size)
  clear hbQ
  try dsimp only
  refine hK.out _ _ (HC1.out _ hbX) (fun hHeld => ?_)
  clear hK K
  try simp only [Act.put, List.setIfInBounds_toArray, List.set_cons_zero, List.set_cons_succ]
  refine wpAnyH_take (i := 39) (oi := ⟨some 100, _, _, _, _, _⟩) (v := ?_) rfl (by kernel_rfl) (by kernel_rfl) (by kernel_rfl) (fun _ _ _ h => h) (Or.inl ⟨by rfl, ?_⟩) (by assumption) ?_
  rotate_left
  · intro w hSw; (try dsimp only at hSw); go_simp; try (with_reducible rfl)
  rotate_left 0
  try simp only [Act.put, List.setIfInBounds_toArray, List.set_cons_zero, List.set_cons_succ]
  refine wpAnyH_take (i := 40) (oi := ⟨some 6, _, _, _, _, _⟩) (v := ?_) rfl (by kernel_rfl) (by kernel_rfl) (by kernel_rfl) (fun _ _ _ h => h) (Or.inl ⟨by rfl, ?_⟩) (by assumption) ?_
  rotate_left
  · intro w hSw; (try dsimp only at hSw); go_simp; try (with_reducible rfl)
  rotate_left 0
  try simp only [Act.put, List.setIfInBounds_toArray, List.set_cons_zero, List.set_cons_succ]
  refine wpAnyH_done (by kernel_rfl) ?_ _
  go_wp2_with fail
  go_ret
  exact ⟨rfl, HB8.out.trans (hbX.mono HB8.out.size)⟩
set_option maxRecDepth 100000 in
set_option maxHeartbeats 8000000 in
theorem roots_in_w (c : Int) (A : Option Addr) (n cp : Nat) (ps : List (List UInt8)) (a : Nat) (w : World) (hT : Tables w) (hn : ps.length = n) (hm : n ≤ 140737488351232) (hr : RdP w (fun b => b < w.heap.size) A ps) (hcw : 31 < c) (har : a < (fewL ps).length) :
    Calls Tryd.prog 6 #[.int .i64 c, .slice A n cp, .int .i64 (a : Int)] w fun e w' => e = .returned (.bool true) ∧ Below w.heap.size w w' := by
  have HCU := Lib.hid (cuts_any w hT)
  have HFW : Hid (∀ W, Below w.heap.size w W → Calls Tryd.prog 19 #[.slice A n cp] W fun e w' => ∃ v4 v5, e = .returned (.tuple #[v4, v5]) ∧ OutAt w' W.heap.size v4 (fewL ps) ∧ TxtRow w' W.heap.size v5 (fewL ps) ∧ Below W.heap.size W w') := Lib.hid fun W hb => few_any A n cp ps W hn hm (hr.oldS hb)
  have hfl := fewL_length ps
  have hfe := fewL_each ps
  obtain ⟨fs, hfs⟩ : ∃ fs, fewL ps = fs := ⟨_, rfl⟩
  rw [hfs] at HFW hfl hfe har
  obtain ⟨m, hm0⟩ : ∃ m, fs.length = m := ⟨_, rfl⟩
  rw [hm0] at har
  have HT := Lib.hid hT
  have HFE := Lib.hid hfe
  have HFL := Lib.hid hfl
  have HM := Lib.hid hm0
  clear hr hn hm hfs hT hfe
  have hc32 : decide (c ≥ 32) = true := decide_eq_true (by omega)
  have hc32b : (32 : Int) ≤ c := by omega
  go_enter Tryd.func6, Tryd.ntmps6
  go_upto_region 4 with (first
    | (go_at_call 18; refine HCU.out.mono ?_; rintro e W1 ⟨rfl, hb1⟩; have HB1 := Lib.hid hb1; clear hb1 HCU)
    | (go_at_call 19; refine (HFW.out _ HB1.out).mono ?_; rintro e W2 ⟨v4, v5, rfl, ho4, ho5, hb2⟩; have HO := Lib.hid (And.intro (ho4.rdP hb2.size) ho5.rdS); have HB2 := Lib.hid (HB1.out.trans (hb2.mono HB1.out.size)); clear hb2 ho4 ho5 HFW))
  obtain ⟨⟨A4, c4, rfl, hc4, hr4⟩, ⟨A5, c5, rfl, hc5, hr5⟩⟩ := HO.out
  clear HO
  rw [HM.out] at hc4 hc5 ⊢
  have hm20 : m ≤ 20 := by have := HFL.out; omega
  have hle : ∀ p ∈ fs, p.length ≤ 1000000 := fun p hp => Nat.le_trans (HFE.out p hp) (by omega)
  have HRO : Hid (∀ W, Below W2.heap.size W2 W → Calls Tryd.prog 20 #[.int .i64 c, .slice A4 m c4] W fun e w' => e = .returned (.agg (arr 32 fun i => bv (rootC c fs i))) ∧ Below W.heap.size W w') := Lib.hid fun W hb => root_any c m fs A4 c4 W HM.out (by omega) hc4 hle (HT.out.below (HB2.out.trans (hb.mono HB2.out.size))) (hr4.oldS hb)
  have HRR : Hid (∀ W, Below W2.heap.size W2 W → Calls Tryd.prog 21 #[.int .i64 c, .slice A5 m c5] W fun e w' => e = .returned (.agg (arr 32 fun i => bv (rootC c fs i))) ∧ Below W.heap.size W w') := Lib.hid fun W hb => refRootS_any c m fs A5 c5 W HM.out (by omega) hc5 hle (hr5.oldS hb)
  have HEN : Hid (∀ W, Below W2.heap.size W2 W → Calls Tryd.prog 23 #[.slice A4 m c4] W fun e w' => ∃ g', e = .returned (.slice (some ⟨g', 0, none⟩) m m) ∧ RdI w' (fun b => b < w'.heap.size) (.slice (some ⟨g', 0, none⟩) m m) (fs.map leafD) ∧ Below W.heap.size W w') := Lib.hid fun W hb => (entries_any A4 m c4 fs HM.out (by omega) W (HT.out.below (HB2.out.trans (hb.mono HB2.out.size))) (hr4.oldS hb)).mono (by
    rintro e w' ⟨g', he, _, hr, hb', hlt⟩
    exact ⟨g', he, hr.mono fun b h => by rw [h]; exact hlt, hb'⟩)
  have HTR : Hid (∀ v W, Below W2.heap.size W2 W → RdI W (fun b => b < W.heap.size) v (fs.map leafD) → Calls Tryd.prog 22 #[v] W fun e w' => e = .returned (.agg (arr 32 fun i => bv (mth (fs.map leafD) i))) ∧ Below W.heap.size W w') := Lib.hid fun v W hb h => troot_any v _ W (HT.out.below (HB2.out.trans (hb.mono HB2.out.size))) h (by rw [List.length_map, HM.out]; omega)
  have hq1 := fun W => neq_id (rootC c fs) (rootC c fs) W
  simp only [beq_self_eq_true, Bool.not_true] at hq1
  have hq2 := fun W => neq_id (rootC c fs) (mth (fs.map leafD)) W
  rw [show (id32 (rootC c fs) == id32 (mth (fs.map leafD))) = true from by rw [rootC_whole c (by unfold cnt; omega) m fs HM.out]; simp] at hq2
  simp only [Bool.not_true] at hq2
  have HX2 := Lib.hid (Below.refl W2.heap.size W2)
  have HWY : Hid (∀ W, Below W2.heap.size W2 W → Calls Tryd.prog 24 #[.int .i64 c, .slice A4 m c4, .int .i64 (a : Int)] W fun e w' => ∃ v', e = .returned (.tuple #[v', .int .i64 0]) ∧ w'.ownsRow W.heap.size 23 32 v' (wayC c fs a).length (idCells (wayC c fs a)) ∧ Below W.heap.size W w') := Lib.hid fun W hb => wayS_in c m fs a A4 c4 W HM.out har (by omega) hc4 hle (HT.out.below (HB2.out.trans (hb.mono HB2.out.size))) (hr4.oldS hb)
  have hlv := leadsV_own c m fs a HM.out har (by omega)
  have hwl := wayC_length c m fs a HM.out har (by omega)
  have HRW2 : Hid (∀ W, Below W2.heap.size W2 W → Calls Tryd.prog 28 #[.int .i64 c, .slice A5 m c5, .int .i64 (a : Int)] W fun e w' => ∃ v', e = .returned v' ∧ w'.ownsRow W.heap.size 23 32 v' (wayC c fs a).length (idCells (wayC c fs a)) ∧ Below W.heap.size W w') := Lib.hid fun W hb => refWayS_any c m fs a A5 c5 W HM.out har (by omega) hc5 hle (hr5.oldS hb)
  obtain ⟨ad4, u4, rfl, hok4, hcu4, hru4⟩ := hr4 a (by rw [HM.out]; exact har)
  obtain ⟨ad5, rfl, hok5, hcu5⟩ := hr5 a (by rw [HM.out]; exact har)
  obtain ⟨p, hp⟩ : ∃ p, fs.getD a [] = p := ⟨_, rfl⟩
  have hpl : p.length ≤ 1000000 := by
    rw [← hp, List.getD_eq_getElem?_getD, List.getElem?_eq_getElem (by rw [HM.out]; exact har)]
    exact hle _ (List.getElem_mem _)
  rw [hp] at hru4 hcu5 hlv
  obtain ⟨Au, cu, rfl, hcl, _⟩ := id hru4
  obtain ⟨nu, hnu⟩ : ∃ nu, p.length = nu := ⟨_, rfl⟩
  rw [hnu] at hru4 hcu4 hpl
  have HLE2 : Hid (∀ v W, Below W2.heap.size W2 W → RdI W (fun b => b < W.heap.size) v (wayC c fs a) → Calls Tryd.prog 29 #[.int .i64 c, .slice Au nu cu, .int .i64 (a : Int), .int .i64 (m : Int), v, .agg (arr 32 fun i => bv (rootC c fs i))] W fun e w' => e = .returned (.bool true) ∧ Below W.heap.size W w') := Lib.hid fun v W hb h => by
    have := leadsS_any c Au nu cu p (a : Int) (m : Int) v (wayC c fs a) (rootC c fs) W (HT.out.below (HB2.out.trans (hb.mono HB2.out.size))) ((hru4.kept fun a x ha h => (hb.cell (p := a) ha).trans h).mono fun b hb' => Nat.lt_of_lt_of_le hb' hb.size) hnu hpl h (by omega)
    rw [hlv] at this
    exact this
  have HSU2 : Hid (∀ W, Below W2.heap.size W2 W → Calls Tryd.prog 25 #[.int .i64 c, .slice Au nu cu] W fun e w' => e = .returned (.agg (arr 32 fun i => bv ((cutD c (sha p)) i))) ∧ Below W.heap.size W w') := Lib.hid fun W hb => csum_any c _ p (by omega) W (HT.out.below (HB2.out.trans (hb.mono HB2.out.size))) ((hru4.kept fun a x ha h => (hb.cell (p := a) ha).trans h).mono fun b hb' => Nat.lt_of_lt_of_le hb' hb.size)
  have HRS := Lib.hid fun W => refSumS_any c p (by omega) W
  have hq3 := fun W => eql_id (cutD c (sha p)) (cutD c (sha p)) W
  simp only [beq_self_eq_true] at hq3
  obtain ⟨s, hs⟩ : ∃ s, (⟨p.toArray⟩ : ByteArray) = s := ⟨_, rfl⟩
  rw [hs] at hcu5 HRS
  have HC2 : Hid (∀ W, Below W2.heap.size W2 W → W.cell? (ad4.add a) = some (.slice Au nu cu) ∧ W.cell? (ad5.add a) = some (.string s)) := Lib.hid fun W hb => ⟨(hb.cell (p := ad4.add a) (by rw [block_add]; exact hok4)).trans hcu4, (hb.cell (p := ad5.add a) (by rw [block_add]; exact hok5)).trans hcu5⟩
  have HSA2 : Hid (∀ v v' W, RdI W (fun b => b < W.heap.size) v (wayC c fs a) → RdI W (fun b => b < W.heap.size) v' (wayC c fs a) → Calls Tryd.prog 27 #[v, v'] W fun e w' => e = .returned (.bool true) ∧ Below W.heap.size W w') := Lib.hid fun v v' W h h' => same_true v v' _ W h h' (by omega)
  generalize rootC c fs = R at *
  generalize cutD c (sha p) = S at *
  generalize mth (fs.map leafD) = M at *
  generalize fs.map leafD = ls at *
  generalize wayC c fs a = P at *
  have HWL := Lib.hid hwl
  have ham : (a : Int) < (m : Int) := by omega
  have hamn : ¬ m ≤ a := by omega
  have ha0 : (0 : Int) ≤ (a : Int) := by omega
  have hmi : (m : Int) ≤ 20 := by omega
  have d0 : decide ((a : Int) < 0) = false := decide_eq_false (by omega)
  have d1 : decide ((m : Int) ≤ (a : Int)) = false := decide_eq_false (by omega)
  have HQ3 := Lib.hid hq3
  clear hle hok4 hok5 hcu4 hcu5 hru4 hc4 hc5 hlv hwl hp hpl hnu hcl hs hq3 hr4 hr5
  go_upto_region 10 with (first
    | (go_at_call 20; refine (HRO.out _ HX2.out).mono ?_; rintro e W3 ⟨rfl, hb3⟩; have HX3 := Lib.hid (HX2.out.trans (hb3.mono (Nat.le_refl _))); clear hb3 HX2)
    | (go_at_call 21; refine (HRR.out _ HX3.out).mono ?_; rintro e W4 ⟨rfl, hb4⟩; have HX4 := Lib.hid (HX3.out.trans (hb4.mono HX3.out.size)); clear hb4)
    | (go_at_call 20; refine (HRO.out _ HX4.out).mono ?_; rintro e W5 ⟨rfl, hb5⟩; have HX5 := Lib.hid (HX4.out.trans (hb5.mono HX4.out.size)); clear hb5)
    | (go_at_call 23; refine (HEN.out _ HX5.out).mono ?_; rintro e W6 ⟨g', rfl, hr6, hb6⟩; have HR6 := Lib.hid hr6; have HX6 := Lib.hid (HX5.out.trans (hb6.mono HX5.out.size)); clear hb6 hr6)
    | (go_at_call 22; refine (HTR.out _ _ HX6.out HR6.out).mono ?_; rintro e W7 ⟨rfl, hb7⟩; have HX7 := Lib.hid (HX6.out.trans (hb7.mono HX6.out.size)); clear hb7)
    | (go_at_call 24; refine (HWY.out _ HX7.out).mono ?_; rintro e W8 ⟨v6, rfl, ho8, hb8⟩; have HO8 := Lib.hid ho8; have HX8 := Lib.hid (HX7.out.trans (hb8.mono HX7.out.size)); clear hb8 ho8))
  have hq3 := HQ3.out
  have HR8 := Lib.hid (sh_own_rd HO8.out (by have := HWL.out; omega))
  have hbX : Below W8.heap.size W8 W8.drew := (Below.refl _ _).drew
  have HC1 : Hid (∀ W, Below W8.heap.size W8 W → W.cell? (ad4.add a) = some (.slice Au nu cu) ∧ W.cell? (ad5.add a) = some (.string s)) := Lib.hid fun W hb => HC2.out W (HX8.out.trans (hb.mono HX8.out.size))
  have HSU : Hid (∀ W, Below W8.heap.size W8 W → Calls Tryd.prog 25 #[.int .i64 c, .slice Au nu cu] W fun e w' => e = .returned (.agg (arr 32 fun i => bv (S i))) ∧ Below W.heap.size W w') := Lib.hid fun W hb => HSU2.out W (HX8.out.trans (hb.mono HX8.out.size))
  have HRW : Hid (∀ W, Below W8.heap.size W8 W → Calls Tryd.prog 28 #[.int .i64 c, .slice (some ad5) m c5, .int .i64 (a : Int)] W fun e w' => ∃ v', e = .returned v' ∧ w'.ownsRow W.heap.size 23 32 v' P.length (idCells P) ∧ Below W.heap.size W w') := Lib.hid fun W hb => HRW2.out W (HX8.out.trans (hb.mono HX8.out.size))
  have HRO3 : Hid (∀ W, Below W8.heap.size W8 W → Calls Tryd.prog 20 #[.int .i64 c, .slice (some ad4) m c4] W fun e w' => e = .returned (.agg (arr 32 fun i => bv (R i))) ∧ Below W.heap.size W w') := Lib.hid fun W hb => HRO.out W (HX8.out.trans (hb.mono HX8.out.size))
  have HLE : Hid (∀ W, Below W8.heap.size W8 W → Calls Tryd.prog 29 #[.int .i64 c, .slice Au nu cu, .int .i64 (a : Int), .int .i64 (m : Int), v6, .agg (arr 32 fun i => bv (R i))] W fun e w' => e = .returned (.bool true) ∧ Below W.heap.size W w') := Lib.hid fun W hb => HLE2.out v6 W (HX8.out.trans (hb.mono HX8.out.size)) ((HR8.out.old hb).mono fun b hb' => Nat.lt_of_lt_of_le hb' hb.size)
  have HSA : Hid (∀ v' W, Below W8.heap.size W8 W → RdI W (fun b => b < W.heap.size) v' P → Calls Tryd.prog 27 #[v6, v'] W fun e w' => e = .returned (.bool true) ∧ Below W.heap.size W w') := Lib.hid fun v' W hb h' => HSA2.out v6 v' W ((HR8.out.old hb).mono fun b hb' => Nat.lt_of_lt_of_le hb' hb.size) h'
  have HB8 := Lib.hid (HB2.out.trans (HX8.out.mono HB2.out.size))
  refine wp_region_held_drew (S := fun W' => W'.cell? (ad4.add a) = some (.slice Au nu cu) ∧ W'.cell? (ad5.add a) = some (.string s)) (by kernel_rfl) ?_ (fun hHeld => ?_)
  · exact HC1.out _ hbX
  refine wpAnyH_take (i := 0) (oi := ⟨some 61, _, _, _, _, _⟩) (v := ?_) rfl (by kernel_rfl) (by kernel_rfl) (by kernel_rfl) (fun _ _ _ h => h) (Or.inl ⟨by rfl, ?_⟩) (by assumption) ?_
  rotate_left
  · intro w hSw; (try dsimp only at hSw); go_simp; try (with_reducible rfl)
  rotate_left 0
  try simp only [Act.put, List.setIfInBounds_toArray, List.set_cons_zero, List.set_cons_succ]
  refine wpAnyH_take (i := 1) (oi := ⟨some 62, _, _, _, _, _⟩) (v := ?_) rfl (by kernel_rfl) (by kernel_rfl) (by kernel_rfl) (fun _ _ _ h => h) (Or.inl ⟨by rfl, ?_⟩) (by assumption) ?_
  rotate_left
  · intro w hSw; (try dsimp only at hSw); go_simp; try (with_reducible rfl)
  rotate_left 0
  try simp only [Act.put, List.setIfInBounds_toArray, List.set_cons_zero, List.set_cons_succ]
  refine wpAnyH_take (i := 2) (oi := ⟨some 63, _, _, _, _, _⟩) (v := ?_) rfl (by kernel_rfl) (by kernel_rfl) (by kernel_rfl) (fun _ _ _ h => h) (Or.inl ⟨by rfl, ?_⟩) (by assumption) ?_
  rotate_left
  · intro w hSw; (try dsimp only at hSw); go_simp; try (with_reducible rfl)
  rotate_left 0
  try simp only [Act.put, List.setIfInBounds_toArray, List.set_cons_zero, List.set_cons_succ]
  refine wpAnyH_take (i := 3) (oi := ⟨some 64, _, _, _, _, _⟩) (v := ?_) rfl (by kernel_rfl) (by kernel_rfl) (by kernel_rfl) (fun _ _ _ h => h) (Or.inl ⟨by rfl, ?_⟩) (by assumption) ?_
  rotate_left
  · intro w hSw; (try dsimp only at hSw); go_simp; try (with_reducible rfl)
  rotate_left 0
  try simp only [Act.put, List.setIfInBounds_toArray, List.set_cons_zero, List.set_cons_succ]
  refine wpAnyH_take (i := 4) (oi := ⟨some 65, _, _, _, _, _⟩) (v := ?_) rfl (by kernel_rfl) (by kernel_rfl) (by kernel_rfl) (fun _ _ _ h => h) (Or.inl ⟨by rfl, ?_⟩) (by assumption) ?_
  rotate_left
  · intro w hSw; (try dsimp only at hSw); go_simp; try (with_reducible rfl)
  rotate_left 0
  try simp only [Act.put, List.setIfInBounds_toArray, List.set_cons_zero, List.set_cons_succ]
  refine wpAnyH_take (i := 5) (oi := ⟨some 66, _, _, _, _, _⟩) (v := ?_) rfl (by kernel_rfl) (by kernel_rfl) (by kernel_rfl) (fun _ _ _ h => h) (Or.inl ⟨by rfl, ?_⟩) (by assumption) ?_
  rotate_left
  · intro w hSw; (try dsimp only at hSw); go_simp; try (with_reducible rfl)
  rotate_left 0
  try simp only [Act.put, List.setIfInBounds_toArray, List.set_cons_zero, List.set_cons_succ]
  refine wpAnyH_take (i := 6) (oi := ⟨some 67, _, _, _, _, _⟩) (v := ?_) rfl (by kernel_rfl) (by kernel_rfl) (by kernel_rfl) (fun _ _ _ h => h) (Or.inl ⟨by rfl, ?_⟩) (by assumption) ?_
  rotate_left
  · intro w hSw; (try dsimp only at hSw); go_simp; try (with_reducible rfl)
  rotate_left 0
  try simp only [Act.put, List.setIfInBounds_toArray, List.set_cons_zero, List.set_cons_succ]
  refine wpAnyH_take (i := 7) (oi := ⟨some 68, _, _, _, _, _⟩) (v := (.slice Au nu cu)) rfl (by kernel_rfl) (by kernel_rfl) (by kernel_rfl) (fun _ _ _ h => h) (yieldsIf_load_one' (by rfl) 50 _ rfl (ad4.add a) rfl _ _ (fun _ hS => hS.1) Tryd.underlying50 rfl) (by assumption) ?_
  try simp only [Act.put, List.setIfInBounds_toArray, List.set_cons_zero, List.set_cons_succ]
  refine wpAnyH_take (i := 9) (oi := ⟨some 70, _, _, _, _, _⟩) (v := ?_) rfl (by kernel_rfl) (by kernel_rfl) (by kernel_rfl) (fun _ _ _ h => h) (Or.inl ⟨by rfl, ?_⟩) (by assumption) ?_
  rotate_left
  · intro w hSw; (try dsimp only at hSw); go_simp; try (with_reducible rfl)
  rotate_left 0
  try simp only [Act.put, List.setIfInBounds_toArray, List.set_cons_zero, List.set_cons_succ]
  refine wpAnyH_take (i := 10) (oi := ⟨some 71, _, _, _, _, _⟩) (v := ?_) rfl (by kernel_rfl) (by kernel_rfl) (by kernel_rfl) (fun _ _ _ h => h) (Or.inl ⟨by rfl, ?_⟩) (by assumption) ?_
  rotate_left
  · intro w hSw; (try dsimp only at hSw); go_simp; try (with_reducible rfl)
  rotate_left 0
  try simp only [Act.put, List.setIfInBounds_toArray, List.set_cons_zero, List.set_cons_succ]
  refine wpAnyH_take (i := 11) (oi := ⟨some 72, _, _, _, _, _⟩) (v := ?_) rfl (by kernel_rfl) (by kernel_rfl) (by kernel_rfl) (fun _ _ _ h => h) (Or.inl ⟨by rfl, ?_⟩) (by assumption) ?_
  rotate_left
  · intro w hSw; (try dsimp only at hSw); go_simp; try (with_reducible rfl)
  rotate_left 0
  try simp only [Act.put, List.setIfInBounds_toArray, List.set_cons_zero, List.set_cons_succ]
  refine wpAnyH_take (i := 12) (oi := ⟨some 73, _, _, _, _, _⟩) (v := ?_) rfl (by kernel_rfl) (by kernel_rfl) (by kernel_rfl) (fun _ _ _ h => h) (Or.inl ⟨by rfl, ?_⟩) (by assumption) ?_
  rotate_left
  · intro w hSw; (try dsimp only at hSw); go_simp; try (with_reducible rfl)
  rotate_left 0
  try simp only [Act.put, List.setIfInBounds_toArray, List.set_cons_zero, List.set_cons_succ]
  refine wpAnyH_take (i := 13) (oi := ⟨some 74, _, _, _, _, _⟩) (v := (.string s)) rfl (by kernel_rfl) (by kernel_rfl) (by kernel_rfl) (fun _ _ _ h => h) (yieldsIf_load_one' (by rfl) 9 _ rfl (ad5.add a) rfl _ _ (fun _ hS => hS.2) Tryd.underlying9 rfl) (by assumption) ?_
  try simp only [Act.put, List.setIfInBounds_toArray, List.set_cons_zero, List.set_cons_succ]
  refine wpAnyH_ready (rs := [8]) (by kernel_rfl) (by simp) ?_
  refine (AllReadyH.cons (o := ⟨some 69, _, _, _, _, _⟩) rfl (fun K hK => ?_) AllReadyH.nil)
  (try rw [if_pos (by rfl)])
  go_simp
  refine (HSU.out _ hbX).mono ?_
  rintro e Wa ⟨rfl, hbQ⟩
  replace hbX := hbX.trans (hbQ.mono hbX.size)
  clear hbQ
  try dsimp only
  refine hK.out _ _ (HC1.out _ hbX) (fun hHeld => ?_)
  clear hK K
  try simp only [Act.put, List.setIfInBounds_toArray, List.set_cons_zero, List.set_cons_succ]
  refine wpAnyH_ready (rs := [14]) (by kernel_rfl) (by simp) ?_
  refine (AllReadyH.cons (o := ⟨some 75, _, _, _, _, _⟩) rfl (fun K hK => ?_) AllReadyH.nil)
  (try rw [if_pos (by rfl)])
  go_simp
  refine (HRS.out _).mono ?_
  rintro e Wb ⟨rfl, hbQ⟩
  replace hbX := hbX.trans (hbQ.mono hbX.size)
  clear hbQ
  try dsimp only
  refine hK.out _ _ (HC1.out _ hbX) (fun hHeld => ?_)
  clear hK K
  try simp only [Act.put, List.setIfInBounds_toArray, List.set_cons_zero, List.set_cons_succ]
  refine wpAnyH_take (i := 15) (oi := ⟨some 76, _, _, _, _, _⟩) (v := ?_) rfl (by kernel_rfl) (by kernel_rfl) (by kernel_rfl) (fun _ _ _ h => h) (Or.inl ⟨by rfl, ?_⟩) (by assumption) ?_
  rotate_left
  · intro w hSw; (try dsimp only at hSw); go_simp; try (with_reducible rfl)
  rotate_left 0
  try simp only [Act.put, List.setIfInBounds_toArray, List.set_cons_zero, List.set_cons_succ]
  refine wpAnyH_take (i := 16) (oi := ⟨some 77, _, _, _, _, _⟩) (v := ?_) rfl (by kernel_rfl) (by kernel_rfl) (by kernel_rfl) (fun _ _ _ h => h) (Or.inl ⟨by rfl, ?_⟩) (by assumption) ?_
  rotate_left
  · intro w hSw; (try dsimp only at hSw); go_simp; try (with_reducible rfl)
  rotate_left 0
  try simp only [Act.put, List.setIfInBounds_toArray, List.set_cons_zero, List.set_cons_succ]
  refine wpAnyH_take (i := 17) (oi := ⟨some 78, _, _, _, _, _⟩) (v := ?_) rfl (by kernel_rfl) (by kernel_rfl) (by kernel_rfl) (fun _ _ _ h => h) (Or.inl ⟨by rfl, ?_⟩) (by assumption) ?_
  rotate_left
  · intro w hSw; (try dsimp only at hSw); go_simp; try (with_reducible rfl)
  rotate_left 0
  try simp only [Act.put, List.setIfInBounds_toArray, List.set_cons_zero, List.set_cons_succ]
  refine wpAnyH_take (i := 18) (oi := ⟨some 79, _, _, _, _, _⟩) (v := ?_) rfl (by kernel_rfl) (by kernel_rfl) (by kernel_rfl) (fun _ _ _ h => h) (Or.inl ⟨by rfl, ?_⟩) (by assumption) ?_
  rotate_left
  · intro w hSw; (try dsimp only at hSw); go_simp; try (with_reducible rfl)
  rotate_left 0
  try simp only [Act.put, List.setIfInBounds_toArray, List.set_cons_zero, List.set_cons_succ]
  refine wpAnyH_take (i := 19) (oi := ⟨some 80, _, _, _, _, _⟩) (v := ?_) rfl (by kernel_rfl) (by kernel_rfl) (by kernel_rfl) (fun _ _ _ h => h) (Or.inl ⟨by rfl, ?_⟩) (by assumption) ?_
  rotate_left
  · intro w hSw; (try dsimp only at hSw); go_simp; try (with_reducible rfl)
  rotate_left 0
  try simp only [Act.put, List.setIfInBounds_toArray, List.set_cons_zero, List.set_cons_succ]
  refine wpAnyH_take (i := 20) (oi := ⟨some 81, _, _, _, _, _⟩) (v := ?_) rfl (by kernel_rfl) (by kernel_rfl) (by kernel_rfl) (fun _ _ _ h => h) (Or.inl ⟨by rfl, ?_⟩) (by assumption) ?_
  rotate_left
  · intro w hSw; (try dsimp only at hSw); go_simp; try (with_reducible rfl)
  rotate_left 0
  try simp only [Act.put, List.setIfInBounds_toArray, List.set_cons_zero, List.set_cons_succ]
  refine wpAnyH_take (i := 21) (oi := ⟨some 82, _, _, _, _, _⟩) (v := ?_) rfl (by kernel_rfl) (by kernel_rfl) (by kernel_rfl) (fun _ _ _ h => h) (Or.inl ⟨by rfl, ?_⟩) (by assumption) ?_
  rotate_left
  · intro w hSw; (try dsimp only at hSw); go_simp; try (with_reducible rfl)
  rotate_left 0
  try simp only [Act.put, List.setIfInBounds_toArray, List.set_cons_zero, List.set_cons_succ]
  refine wpAnyH_ready (rs := [22]) (by kernel_rfl) (by simp) ?_
  refine (AllReadyH.cons (o := ⟨some 83, _, _, _, _, _⟩) rfl (fun K hK => ?_) AllReadyH.nil)
  (try rw [if_pos (by rfl)])
  go_simp
  refine (HRW.out _ hbX).mono ?_
  rintro e Wc ⟨v9, rfl, ho9, hbQ⟩
  have hr9 := sh_own_rd ho9 (by have := HWL.out; omega)
  clear ho9
  have HS9 := Lib.hid (HSA.out v9 _ (hbX.trans (hbQ.mono hbX.size)) hr9)
  clear hr9
  replace hbX := hbX.trans (hbQ.mono hbX.size)
  clear hbQ
  try dsimp only
  refine hK.out _ _ (HC1.out _ hbX) (fun hHeld => ?_)
  clear hK K
  try simp only [Act.put, List.setIfInBounds_toArray, List.set_cons_zero, List.set_cons_succ]
  refine wpAnyH_ready (rs := [23]) (by kernel_rfl) (by simp) ?_
  refine (AllReadyH.cons (o := ⟨some 84, _, _, _, _, _⟩) rfl (fun K hK => ?_) AllReadyH.nil)
  (try rw [if_pos (by rfl)])
  go_simp
  refine (HS9.out).mono ?_
  rintro e Wd ⟨rfl, hbQ⟩
  replace hbX := hbX.trans (hbQ.mono hbX.size)
  clear hbQ
  try dsimp only
  refine hK.out _ _ (HC1.out _ hbX) (fun hHeld => ?_)
  clear hK K
  try simp only [Act.put, List.setIfInBounds_toArray, List.set_cons_zero, List.set_cons_succ]
  refine wpAnyH_take (i := 24) (oi := ⟨some 85, _, _, _, _, _⟩) (v := ?_) rfl (by kernel_rfl) (by kernel_rfl) (by kernel_rfl) (fun _ _ _ h => h) (Or.inl ⟨by rfl, ?_⟩) (by assumption) ?_
  rotate_left
  · intro w hSw; (try dsimp only at hSw); go_simp; try (with_reducible rfl)
  rotate_left 0
  try simp only [Act.put, List.setIfInBounds_toArray, List.set_cons_zero, List.set_cons_succ]
  refine wpAnyH_take (i := 25) (oi := ⟨some 86, _, _, _, _, _⟩) (v := ?_) rfl (by kernel_rfl) (by kernel_rfl) (by kernel_rfl) (fun _ _ _ h => h) (Or.inl ⟨by rfl, ?_⟩) (by assumption) ?_
  rotate_left
  · intro w hSw; (try dsimp only at hSw); go_simp; try (with_reducible rfl)
  rotate_left 0
  try simp only [Act.put, List.setIfInBounds_toArray, List.set_cons_zero, List.set_cons_succ]
  refine wpAnyH_take (i := 26) (oi := ⟨some 87, _, _, _, _, _⟩) (v := ?_) rfl (by kernel_rfl) (by kernel_rfl) (by kernel_rfl) (fun _ _ _ h => h) (Or.inl ⟨by rfl, ?_⟩) (by assumption) ?_
  rotate_left
  · intro w hSw; (try dsimp only at hSw); go_simp; try (with_reducible rfl)
  rotate_left 0
  try simp only [Act.put, List.setIfInBounds_toArray, List.set_cons_zero, List.set_cons_succ]
  refine wpAnyH_take (i := 27) (oi := ⟨some 88, _, _, _, _, _⟩) (v := ?_) rfl (by kernel_rfl) (by kernel_rfl) (by kernel_rfl) (fun _ _ _ h => h) (Or.inl ⟨by rfl, ?_⟩) (by assumption) ?_
  rotate_left
  · intro w hSw; (try dsimp only at hSw); go_simp; try (with_reducible rfl)
  rotate_left 0
  try simp only [Act.put, List.setIfInBounds_toArray, List.set_cons_zero, List.set_cons_succ]
  refine wpAnyH_take (i := 28) (oi := ⟨some 89, _, _, _, _, _⟩) (v := ?_) rfl (by kernel_rfl) (by kernel_rfl) (by kernel_rfl) (fun _ _ _ h => h) (Or.inl ⟨by rfl, ?_⟩) (by assumption) ?_
  rotate_left
  · intro w hSw; (try dsimp only at hSw); go_simp; try (with_reducible rfl)
  rotate_left 0
  try simp only [Act.put, List.setIfInBounds_toArray, List.set_cons_zero, List.set_cons_succ]
  refine wpAnyH_take (i := 29) (oi := ⟨some 90, _, _, _, _, _⟩) (v := ?_) rfl (by kernel_rfl) (by kernel_rfl) (by kernel_rfl) (fun _ _ _ h => h) (Or.inl ⟨by rfl, ?_⟩) (by assumption) ?_
  rotate_left
  · intro w hSw; (try dsimp only at hSw); go_simp; try (with_reducible rfl)
  rotate_left 0
  try simp only [Act.put, List.setIfInBounds_toArray, List.set_cons_zero, List.set_cons_succ]
  refine wpAnyH_take (i := 30) (oi := ⟨some 91, _, _, _, _, _⟩) (v := (.slice Au nu cu)) rfl (by kernel_rfl) (by kernel_rfl) (by kernel_rfl) (fun _ _ _ h => h) (yieldsIf_load_one' (by rfl) 50 _ rfl (ad4.add a) rfl _ _ (fun _ hS => hS.1) Tryd.underlying50 rfl) (by assumption) ?_
  try simp only [Act.put, List.setIfInBounds_toArray, List.set_cons_zero, List.set_cons_succ]
  refine wpAnyH_take (i := 31) (oi := ⟨some 92, _, _, _, _, _⟩) (v := ?_) rfl (by kernel_rfl) (by kernel_rfl) (by kernel_rfl) (fun _ _ _ h => h) (Or.inl ⟨by rfl, ?_⟩) (by assumption) ?_
  rotate_left
  · intro w hSw; (try dsimp only at hSw); go_simp; try (with_reducible rfl)
  rotate_left 0
  try simp only [Act.put, List.setIfInBounds_toArray, List.set_cons_zero, List.set_cons_succ]
  refine wpAnyH_take (i := 32) (oi := ⟨some 93, _, _, _, _, _⟩) (v := ?_) rfl (by kernel_rfl) (by kernel_rfl) (by kernel_rfl) (fun _ _ _ h => h) (Or.inl ⟨by rfl, ?_⟩) (by assumption) ?_
  rotate_left
  · intro w hSw; (try dsimp only at hSw); go_simp; try (with_reducible rfl)
  rotate_left 0
  try simp only [Act.put, List.setIfInBounds_toArray, List.set_cons_zero, List.set_cons_succ]
  refine wpAnyH_take (i := 33) (oi := ⟨some 94, _, _, _, _, _⟩) (v := ?_) rfl (by kernel_rfl) (by kernel_rfl) (by kernel_rfl) (fun _ _ _ h => h) (Or.inl ⟨by rfl, ?_⟩) (by assumption) ?_
  rotate_left
  · intro w hSw; (try dsimp only at hSw); go_simp; try (with_reducible rfl)
  rotate_left 0
  try simp only [Act.put, List.setIfInBounds_toArray, List.set_cons_zero, List.set_cons_succ]
  refine wpAnyH_take (i := 34) (oi := ⟨some 95, _, _, _, _, _⟩) (v := ?_) rfl (by kernel_rfl) (by kernel_rfl) (by kernel_rfl) (fun _ _ _ h => h) (Or.inl ⟨by rfl, ?_⟩) (by assumption) ?_
  rotate_left
  · intro w hSw; (try dsimp only at hSw); go_simp; try (with_reducible rfl)
  rotate_left 0
  try simp only [Act.put, List.setIfInBounds_toArray, List.set_cons_zero, List.set_cons_succ]
  refine wpAnyH_take (i := 35) (oi := ⟨some 96, _, _, _, _, _⟩) (v := ?_) rfl (by kernel_rfl) (by kernel_rfl) (by kernel_rfl) (fun _ _ _ h => h) (Or.inl ⟨by rfl, ?_⟩) (by assumption) ?_
  rotate_left
  · intro w hSw; (try dsimp only at hSw); go_simp; try (with_reducible rfl)
  rotate_left 0
  try simp only [Act.put, List.setIfInBounds_toArray, List.set_cons_zero, List.set_cons_succ]
  refine wpAnyH_take (i := 36) (oi := ⟨some 97, _, _, _, _, _⟩) (v := ?_) rfl (by kernel_rfl) (by kernel_rfl) (by kernel_rfl) (fun _ _ _ h => h) (Or.inl ⟨by rfl, ?_⟩) (by assumption) ?_
  rotate_left
  · intro w hSw; (try dsimp only at hSw); go_simp; try (with_reducible rfl)
  rotate_left 0
  try simp only [Act.put, List.setIfInBounds_toArray, List.set_cons_zero, List.set_cons_succ]
  refine wpAnyH_ready (rs := [37]) (by kernel_rfl) (by simp) ?_
  refine (AllReadyH.cons (o := ⟨some 98, _, _, _, _, _⟩) rfl (fun K hK => ?_) AllReadyH.nil)
  (try rw [if_pos (by rfl)])
  go_simp
  refine (HRO3.out _ hbX).mono ?_
  rintro e We ⟨rfl, hbQ⟩
  replace hbX := hbX.trans (hbQ.mono hbX.size)
  clear hbQ
  try dsimp only
  refine hK.out _ _ (HC1.out _ hbX) (fun hHeld => ?_)
  clear hK K
  try simp only [Act.put, List.setIfInBounds_toArray, List.set_cons_zero, List.set_cons_succ]
  refine wpAnyH_ready (rs := [38]) (by kernel_rfl) (by simp) ?_
  refine (AllReadyH.cons (o := ⟨some 99, _, _, _, _, _⟩) rfl (fun K hK => ?_) AllReadyH.nil)
  (try rw [if_pos (by rfl)])
  go_simp
  refine (HLE.out _ hbX).mono ?_
  rintro e Wf ⟨rfl, hbQ⟩
  replace hbX := hbX.trans (hbQ.mono hbX.size)
  clear hbQ
  try dsimp only
  refine hK.out _ _ (HC1.out _ hbX) (fun hHeld => ?_)
  clear hK K
  try simp only [Act.put, List.setIfInBounds_toArray, List.set_cons_zero, List.set_cons_succ]
  refine wpAnyH_take (i := 39) (oi := ⟨some 100, _, _, _, _, _⟩) (v := ?_) rfl (by kernel_rfl) (by kernel_rfl) (by kernel_rfl) (fun _ _ _ h => h) (Or.inl ⟨by rfl, ?_⟩) (by assumption) ?_
  rotate_left
  · intro w hSw; (try dsimp only at hSw); go_simp; try (with_reducible rfl)
  rotate_left 0
  try simp only [Act.put, List.setIfInBounds_toArray, List.set_cons_zero, List.set_cons_succ]
  refine wpAnyH_take (i := 40) (oi := ⟨some 6, _, _, _, _, _⟩) (v := ?_) rfl (by kernel_rfl) (by kernel_rfl) (by kernel_rfl) (fun _ _ _ h => h) (Or.inl ⟨by rfl, ?_⟩) (by assumption) ?_
  rotate_left
  · intro w hSw; (try dsimp only at hSw); go_simp; try (with_reducible rfl)
  rotate_left 0
  try simp only [Act.put, List.setIfInBounds_toArray, List.set_cons_zero, List.set_cons_succ]
  refine wpAnyH_done (by kernel_rfl) ?_ _
  go_wp2_with fail
  go_ret
  exact ⟨rfl, HB8.out.trans (hbX.mono HB8.out.size)⟩
theorem roots_law (c : Int) (A : Option Addr) (n cp : Nat) (ps : List (List UInt8)) (a : Int) (w : World) (hT : Tables w) (hn : ps.length = n) (hm : n ≤ 140737488351232) (hr : RdP w (fun b => b < w.heap.size) A ps) :
    Calls Tryd.prog 6 #[.int .i64 c, .slice A n cp, .int .i64 a] w fun e w' => e = .returned (.bool true) ∧ Below w.heap.size w w' := by
  by_cases h : a < 0 ∨ ((fewL ps).length : Int) ≤ a
  · by_cases hc : 31 < c
    · exact roots_range_w c A n cp ps a w hT hn hm hr hc h
    · exact roots_range_c c A n cp ps a w hT hn hm hr (by omega) h
  · obtain ⟨a', rfl⟩ := Int.eq_ofNat_of_zero_le (show 0 ≤ a by omega)
    by_cases hc : 31 < c
    · exact roots_in_w c A n cp ps a' w hT hn hm hr hc (by omega)
    · exact roots_in_c c A n cp ps a' w hT hn hm hr (by omega) (by omega)
theorem roots_law' (c : Int) (A : Option Addr) (cp : Nat) (ps : List (List UInt8)) (a : Int) (w : World) (hT : Tables w) (hm : ps.length ≤ 140737488351232) (hr : RdP w (fun b => b < w.heap.size) A ps) :
    Calls Tryd.prog 6 #[.int .i64 c, .slice A ps.length cp, .int .i64 a] w fun e w' => e = .returned (.bool true) ∧ Below w.heap.size w w' := roots_law c A ps.length cp ps a w hT rfl hm hr
end Go.Proofs.YtggffadildfnlaaDoor
