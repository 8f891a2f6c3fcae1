/-
  SumApart, the walk: for every entry and two sums.
-/
import Derived.Test.YtghjdelijmlemaaDoorLawPurp
import Derived.Test.YtghjdelijmlemaaDoorApp
import Derived.Deep.DeepMust
namespace Go.Proofs.YtghjdelijmlemaaDoor
open Go Go.RowKit Go.Shelf

set_option maxRecDepth 100000 in
set_option maxHeartbeats 4000000 in
theorem apart_any (A : Option Addr) (c : Nat) (L : List UInt8) (n : Nat) (hn : L.length = n) (t : Nat → UInt8) (w : World) (hT : Tables w) (hr : RdB w (fun b => b < w.heap.size) (.slice A n c) L) :
    Calls Tryd.prog 6 #[.slice A n c, .agg (arr 64 fun i => bv (t i))] w fun e w' => e = .returned (.bool true) ∧ Below w.heap.size w w' := by
  have HT := Lib.hid hT
  obtain ⟨hc, hnm⟩ : n ≤ c ∧ n ≤ 140737488351232 := by
    obtain ⟨A', c', hv, h1, h2, _⟩ := hr
    injection hv with e1 e2 e3
    omega
  obtain ⟨a2, ha2⟩ : ∃ a2, (arr 64 fun i => bv (t i)) = a2 := ⟨_, rfl⟩
  rw [ha2]
  have HA2 := Lib.hid ha2
  clear ha2
  obtain ⟨m, hm⟩ : ∃ m, min n 300 = m := ⟨_, rfl⟩
  have hmi : min (n : Int) 300 = (m : Int) := by omega
  have hm3 : m ≤ 300 := by omega
  have hmc : m ≤ c := by omega
  have hr2 := hr.firsts (m := m) (by omega)
  obtain ⟨y, hy⟩ : ∃ y, L.take m = y := ⟨_, rfl⟩
  have HY : Hid (y.length = m) := Lib.hid (by rw [← hy, List.length_take]; omega)
  rw [hy] at hr2
  have HR2 := Lib.hid hr2
  have hto := fun w' => run_slice_to (P := Tryd.prog) 24 5 Tryd.underlying24 (by kernel_rfl) A n c m hmc w'
  clear hT hr hn hr2 hy hm
  go_enter Tryd.func6, Tryd.ntmps6
  go_wp2_with (go_at_call 9; refine (callsIn_wide.1 (known_any _ (HT.out.below ((Below.refl _ w).alloc (Nat.le_refl _) _)))).mono ?_; rintro e wE ⟨rfl, hb1⟩)
  have hXE : Blk wE w.heap.size 36 (arr 64 fun i => bv (t i)) := by rw [HA2.out]; exact (Blk.new w _ _).below hb1 (by simp)
  have hwE : Below w.heap.size w wE := ((Below.refl _ w).alloc (Nat.le_refl _) _).trans (hb1.mono (by simp))
  have hTE : Hid (Tables wE) := Lib.hid (HT.out.below hwE)
  have hxl := hXE.lt
  have hrE : RdB wE (fun b => b < w.heap.size) (.slice A m c) y := HR2.out.kept fun a x ha h => (hwE.cell (p := a) ha).trans h
  have RDY : Hid (∀ W', Below wE.heap.size wE W' → RdB W' (fun b => b < W'.heap.size) (.slice A m c) y) := Lib.hid fun W' hb =>
    (hrE.kept fun a x ha h => (hb.cell (p := a) (Nat.lt_of_lt_of_le ha hwE.size)).trans h).mono fun b hb' => Nat.lt_of_lt_of_le (Nat.lt_of_lt_of_le hb' hwE.size) hb.size
  obtain ⟨l, hl⟩ : ∃ l : Nat → UInt8, t = l := ⟨_, rfl⟩
  obtain ⟨r, hr⟩ : ∃ r : Nat → UInt8, (fun i => t (32 + i)) = r := ⟨_, rfl⟩
  obtain ⟨hr1, hr2⟩ := two_ranges hXE
  rw [hl] at hr1
  rw [hr] at hr2
  have RD1 : Hid (∀ W', Below wE.heap.size wE W' → RdB W' (fun b => b < W'.heap.size) (.slice (some ⟨w.heap.size, 0, none⟩) 32 32) (id32 l)) := Lib.hid fun W' hb => by
    have := rd_at (o := 0) (hXE.below hb hxl) (by omega)
    simp only [Nat.zero_add] at this
    rw [← hl]
    exact this
  have RD2 : Hid (∀ W', Below wE.heap.size wE W' → RdB W' (fun b => b < W'.heap.size) (.slice (some ⟨w.heap.size, 32, none⟩) 32 32) (id32 r)) := Lib.hid fun W' hb => by
    rw [← hr]
    exact rd_at (o := 32) (hXE.below hb hxl) (by omega)
  obtain ⟨csL, eL, _, _, _, _⟩ := sum_cells (0 :: y)
  obtain ⟨csN, eN, _, _, _, _⟩ := sum_cells (1 :: (id32 l ++ id32 r))
  obtain ⟨cl, ecl⟩ : ∃ cl, (id32 l).map Extern.Stop.cell = cl := ⟨_, rfl⟩
  obtain ⟨cr, ecr⟩ : ∃ cr, (id32 r).map Extern.Stop.cell = cr := ⟨_, rfl⟩
  have el : (arr 32 fun i => bv (l i)) = cl.toArray := by rw [arr_id32, ecl]
  have er : (arr 32 fun i => bv (r i)) = cr.toArray := by rw [arr_id32, ecr]
  rw [ecl] at hr1
  rw [ecr] at hr2
  have hll : cl.length = 32 := by rw [← ecl]; simp [id32]
  have hrl : cr.length = 32 := by rw [← ecr]; simp [id32]
  have hinfo : (Tryd.prog.info? 26).map (·.size) = some 32 := by kernel_rfl
  have HLI : Hid ((Tryd.prog.info? 26).map (·.size) = some cl.length) := Lib.hid (by rw [hll]; exact hinfo)
  have HRI : Hid ((Tryd.prog.info? 26).map (·.size) = some cr.length) := Lib.hid (by rw [hrl]; exact hinfo)
  have hu := Tryd.underlying26
  have LE : Hid (∀ W', Below wE.heap.size wE W' → Calls Tryd.prog 16 #[.slice A m c] W' fun e w' => e = .returned (.agg csL.toArray) ∧ Below W'.heap.size W' w') := Lib.hid fun W' hb => by
    rw [← eL]
    exact leaf_any A m c y HY.out (by omega) W' (hTE.out.below hb) (RDY.out W' hb)
  have NO : Hid (∀ W', Below wE.heap.size wE W' → Calls Tryd.prog 18 #[.agg cl.toArray, .agg cr.toArray] W' fun e w' => e = .returned (.agg csN.toArray) ∧ Below W'.heap.size W' w') := Lib.hid fun W' hb => by
    rw [← eN, ← el, ← er]
    exact node_any l r W' (hTE.out.below hb)
  have hqL := eql_sha (0 :: y) _ rfl
  have hqN := eql_sha (1 :: (id32 l ++ id32 r)) _ rfl
  rw [eL] at hqL
  rw [eN] at hqN
  have EL : Hid (shaV ([0] ++ y) = .agg csL.toArray) := Lib.hid eL
  have EN : Hid (shaV ([1] ++ id32 l ++ id32 r) = .agg csN.toArray) := Lib.hid (by rw [← eN]; simp)
  have ALL : Hid (∀ W', Below wE.heap.size wE W' → W'.rangeAt w.heap.size 0 cl ∧ W'.rangeAt w.heap.size 32 cr) := Lib.hid fun W' hb =>
    ⟨fun j v hv => (hb.cell (p := ⟨w.heap.size, 0 + j, none⟩) hxl).trans (hr1 j v hv), fun j v hv => (hb.cell (p := ⟨w.heap.size, 32 + j, none⟩) hxl).trans (hr2 j v hv)⟩
  have q0 : Below wE.heap.size wE wE.drew := (Below.refl _ _).drew
  have HWE := Lib.hid hwE
  clear hb1 hXE hwE hxl hrE hr1 hr2 eL eN ecl ecr el er hll hrl hl hr hinfo hmi hto
  refine wp_region_held_drew (S := fun w' => w'.rangeAt w.heap.size 0 cl ∧ w'.rangeAt w.heap.size 32 cr) (by kernel_rfl) ?_ (fun hHeld => ?_)
  · exact ALL.out _ q0
  refine wpAnyH_take (i := 0) (oi := ⟨some 12, _, _, _, _, _⟩) (v := ?_) rfl (by kernel_rfl) (by kernel_rfl) (by kernel_rfl) (fun _ _ _ h => h) (Or.inl ⟨by rfl, ?_⟩) (by assumption) ?_
  rotate_left
  · intro w hSw; (try dsimp only at hSw); go_simp; try (with_reducible rfl)
  rotate_left 0
  try simp only [Act.put, List.setIfInBounds_toArray, List.set_cons_zero, List.set_cons_succ]
  refine wpAnyH_take (i := 3) (oi := ⟨some 15, _, _, _, _, _⟩) (v := ?_) rfl (by kernel_rfl) (by kernel_rfl) (by kernel_rfl) (fun _ _ _ h => h) (Or.inl ⟨by rfl, ?_⟩) (by assumption) ?_
  rotate_left
  · intro w hSw; (try dsimp only at hSw); go_simp; try (with_reducible rfl)
  rotate_left 0
  try simp only [Act.put, List.setIfInBounds_toArray, List.set_cons_zero, List.set_cons_succ]
  refine wpAnyH_ready (rs := [1, 2]) (by kernel_rfl) (by simp) ?_
  refine AllReadyH.cons (o := ⟨some 13, _, _, _, _, _⟩) rfl (fun K hK => ?_) (AllReadyH.cons (o := ⟨some 14, _, _, _, _, _⟩) rfl (fun K hK => ?_) AllReadyH.nil)
  · go_simp
    refine (LE.out _ q0).mono ?_
    rintro e wl ⟨rfl, hbl⟩
    have ql : Below wE.heap.size wE wl := Kp.call q0 hbl
    dsimp only
    refine hK.out _ _ ?_ (fun hHeld => ?_)
    · exact ALL.out _ ql
    clear hK K
    try simp only [Act.put, List.setIfInBounds_toArray, List.set_cons_zero, List.set_cons_succ]
    refine wpAnyH_ready (rs := [2]) (by kernel_rfl) (by simp) ?_
    refine AllReadyH.cons (o := ⟨some 14, _, _, _, _, _⟩) rfl (fun K hK => ?_) AllReadyH.nil
    go_simp
    have qk : Below wE.heap.size wE (wl.alloc (.cells #[.int .u8 0] 5)) := ql.alloc ql.size _
    refine hK.out _ _ ?_ (fun hHeld => ?_)
    · exact ALL.out _ qk
    clear hK K
    try simp only [Act.put, List.setIfInBounds_toArray, List.set_cons_zero, List.set_cons_succ]
    have ownk : (wl.alloc (.cells #[.int .u8 0] 5)).ownsRow wE.heap.size 5 1 (.slice (some ⟨wl.heap.size, 0, none⟩) 1 1) 1 ([0].map bv) := own_one _ _ ql.size 0
    refine wpAnyH_ready (rs := [4]) (by kernel_rfl) (by simp) ?_
    refine AllReadyH.cons (o := ⟨some 16, _, _, _, _, _⟩) rfl (fun K hK => ?_) AllReadyH.nil
    obtain ⟨g4, cap4, w4, hrun4, hown4, q4, hs4⟩ := app_step qk qk.size ownk (by omega) (RDY.out _ qk) (by omega)
    rw [if_pos (by rfl)]
    refine oper_append (.tmp 14) (.tmp 15) _ _ rfl _ _ rfl rfl _ _ hrun4 ?_
    try simp only [Act.put, List.setIfInBounds_toArray, List.set_cons_zero, List.set_cons_succ]
    refine hK.out _ _ ?_ (fun hHeld => ?_)
    · exact ALL.out _ q4
    clear hK K
    try simp only [Act.put, List.setIfInBounds_toArray, List.set_cons_zero, List.set_cons_succ]
    refine wpAnyH_ready (rs := [5]) (by kernel_rfl) (by simp) ?_
    refine AllReadyH.cons (o := ⟨some 17, _, _, _, _, _⟩) rfl (fun K hK => ?_) AllReadyH.nil
    go_simp
    have q5 : Below wE.heap.size wE (w4.alloc (.cells #[.slice (some ⟨g4, 0, none⟩) (1 + m) cap4] 24)) := q4.alloc q4.size _
    refine hK.out _ _ ?_ (fun hHeld => ?_)
    · exact ALL.out _ q5
    clear hK K
    try simp only [Act.put, List.setIfInBounds_toArray, List.set_cons_zero, List.set_cons_succ]
    refine wpAnyH_ready (rs := [6]) (by kernel_rfl) (by simp) ?_
    refine AllReadyH.cons (o := ⟨some 18, _, _, _, _, _⟩) rfl (fun K hK => ?_) AllReadyH.nil
    go_simp
    have ho := of_own hTE.out q4 hown4 (by have := HY.out; simp; omega) (by omega)
    rw [EL.out] at ho
    refine ho.mono ?_
    rintro e w6 ⟨rfl, hb6⟩
    have q6 : Below wE.heap.size wE w6 := Kp.call q5 hb6
    dsimp only
    refine hK.out _ _ ?_ (fun hHeld => ?_)
    · exact ALL.out _ q6
    clear hK K
    try simp only [Act.put, List.setIfInBounds_toArray, List.set_cons_zero, List.set_cons_succ]
    refine wpAnyH_take (i := 7) (oi := ⟨some 19, _, _, _, _, _⟩) (v := ?_) rfl (by kernel_rfl) (by kernel_rfl) (by kernel_rfl) (fun _ _ _ h => h) (Or.inl ⟨by rfl, ?_⟩) (by assumption) ?_
    rotate_left
    · intro w hSw; (try dsimp only at hSw); go_simp; try (with_reducible rfl)
    rotate_left 0
    try simp only [Act.put, List.setIfInBounds_toArray, List.set_cons_zero, List.set_cons_succ]
    refine wpAnyH_take (i := 8) (oi := ⟨some 20, _, _, _, _, _⟩) (v := ?_) rfl (by kernel_rfl) (by kernel_rfl) (by kernel_rfl) (fun _ _ _ h => h) (Or.inl ⟨by rfl, ?_⟩) (by assumption) ?_
    rotate_left
    · intro w hSw; (try dsimp only at hSw); go_simp; try (with_reducible rfl)
    rotate_left 0
    try simp only [Act.put, List.setIfInBounds_toArray, List.set_cons_zero, List.set_cons_succ]
    refine wpAnyH_take (i := 9) (oi := ⟨some 21, _, _, _, _, _⟩) (v := ?_) rfl (by kernel_rfl) (by kernel_rfl) (by kernel_rfl) (fun _ _ _ h => h) (Or.inl ⟨by rfl, ?_⟩) (by assumption) ?_
    rotate_left
    · intro w hSw; (try dsimp only at hSw); go_simp; try (with_reducible rfl)
    rotate_left 0
    try simp only [Act.put, List.setIfInBounds_toArray, List.set_cons_zero, List.set_cons_succ]
    refine wpAnyH_take (i := 11) (oi := ⟨some 23, _, _, _, _, _⟩) (v := ?_) rfl (by kernel_rfl) (by kernel_rfl) (by kernel_rfl) (fun _ _ _ h => h) (Or.inl ⟨by rfl, ?_⟩) (by assumption) ?_
    rotate_left
    · intro w hSw; (try dsimp only at hSw); go_simp; try (with_reducible rfl)
    rotate_left 0
    try simp only [Act.put, List.setIfInBounds_toArray, List.set_cons_zero, List.set_cons_succ]
    refine wpAnyH_take (i := 15) (oi := ⟨some 27, _, _, _, _, _⟩) (v := ?_) rfl (by kernel_rfl) (by kernel_rfl) (by kernel_rfl) (fun _ _ _ h => h) (Or.inl ⟨by rfl, ?_⟩) (by assumption) ?_
    rotate_left
    · intro w hSw; (try dsimp only at hSw); go_simp; try (with_reducible rfl)
    rotate_left 0
    try simp only [Act.put, List.setIfInBounds_toArray, List.set_cons_zero, List.set_cons_succ]
    refine wpAnyH_take (i := 18) (oi := ⟨some 30, _, _, _, _, _⟩) (v := ?_) rfl (by kernel_rfl) (by kernel_rfl) (by kernel_rfl) (fun _ _ _ h => h) (Or.inl ⟨by rfl, ?_⟩) (by assumption) ?_
    rotate_left
    · intro w hSw; (try dsimp only at hSw); go_simp; try (with_reducible rfl)
    rotate_left 0
    try simp only [Act.put, List.setIfInBounds_toArray, List.set_cons_zero, List.set_cons_succ]
    refine wpAnyH_take (i := 16) (oi := ⟨some 28, _, _, _, _, _⟩) (v := ?_) rfl (by kernel_rfl) (by kernel_rfl) (by kernel_rfl) (fun _ _ _ h => h) (Or.inl ⟨by rfl, ?_⟩) (by assumption) ?_
    rotate_left
    · intro w hSw; (try dsimp only at hSw); go_simp; try (with_reducible rfl)
    rotate_left 0
    try simp only [Act.put, List.setIfInBounds_toArray, List.set_cons_zero, List.set_cons_succ]
    refine wpAnyH_take (i := 19) (oi := ⟨some 31, _, _, _, _, _⟩) (v := ?_) rfl (by kernel_rfl) (by kernel_rfl) (by kernel_rfl) (fun _ _ _ h => h) (Or.inl ⟨by rfl, ?_⟩) (by assumption) ?_
    rotate_left
    · intro w hSw; (try dsimp only at hSw); go_simp; try (with_reducible rfl)
    rotate_left 0
    try simp only [Act.put, List.setIfInBounds_toArray, List.set_cons_zero, List.set_cons_succ]
    refine wpAnyH_take (i := 10) (oi := ⟨some 22, _, _, _, _, _⟩) (v := _) rfl (by kernel_rfl) (by kernel_rfl) (by kernel_rfl) (fun _ _ _ h => h) (yieldsIf_load_mid (by rfl) _ _ rfl _ _ rfl cl _ (fun _ hS => hS.1) hu rfl HLI.out) (by assumption) ?_
    try simp only [Act.put, List.setIfInBounds_toArray, List.set_cons_zero, List.set_cons_succ]
    refine wpAnyH_take (i := 12) (oi := ⟨some 24, _, _, _, _, _⟩) (v := _) rfl (by kernel_rfl) (by kernel_rfl) (by kernel_rfl) (fun _ _ _ h => h) (yieldsIf_load_mid (by rfl) _ _ rfl _ _ rfl cr _ (fun _ hS => hS.2) hu rfl HRI.out) (by assumption) ?_
    try simp only [Act.put, List.setIfInBounds_toArray, List.set_cons_zero, List.set_cons_succ]
    refine wpAnyH_ready (rs := [13, 14]) (by kernel_rfl) (by simp) ?_
    refine AllReadyH.cons (o := ⟨some 25, _, _, _, _, _⟩) rfl (fun K hK => ?_) (AllReadyH.cons (o := ⟨some 26, _, _, _, _, _⟩) rfl (fun K hK => ?_) AllReadyH.nil)
    · go_simp
      refine (NO.out _ q6).mono ?_
      rintro e wn ⟨rfl, hbn⟩
      have qn : Below wE.heap.size wE wn := Kp.call q6 hbn
      dsimp only
      refine hK.out _ _ ?_ (fun hHeld => ?_)
      · exact ALL.out _ qn
      clear hK K
      try simp only [Act.put, List.setIfInBounds_toArray, List.set_cons_zero, List.set_cons_succ]
      refine wpAnyH_ready (rs := [14]) (by kernel_rfl) (by simp) ?_
      refine AllReadyH.cons (o := ⟨some 26, _, _, _, _, _⟩) rfl (fun K hK => ?_) AllReadyH.nil
      go_simp
      have qm : Below wE.heap.size wE (wn.alloc (.cells #[.int .u8 1] 5)) := qn.alloc qn.size _
      refine hK.out _ _ ?_ (fun hHeld => ?_)
      · exact ALL.out _ qm
      clear hK K
      try simp only [Act.put, List.setIfInBounds_toArray, List.set_cons_zero, List.set_cons_succ]
      have ownm : (wn.alloc (.cells #[.int .u8 1] 5)).ownsRow wE.heap.size 5 1 (.slice (some ⟨wn.heap.size, 0, none⟩) 1 1) 1 ([1].map bv) := own_one _ _ qn.size 1
      refine wpAnyH_ready (rs := [17]) (by kernel_rfl) (by simp) ?_
      refine AllReadyH.cons (o := ⟨some 29, _, _, _, _, _⟩) rfl (fun K hK => ?_) AllReadyH.nil
      obtain ⟨g7, cap7, w7, hrun7, hown7, q7, hs7⟩ := app_step qm qm.size ownm (by omega) (RD1.out _ qm) (by omega)
      rw [if_pos (by rfl)]
      refine oper_append (.tmp 26) (.tmp 28) _ _ rfl _ _ rfl rfl _ _ hrun7 ?_
      try simp only [Act.put, List.setIfInBounds_toArray, List.set_cons_zero, List.set_cons_succ]
      refine hK.out _ _ ?_ (fun hHeld => ?_)
      · exact ALL.out _ q7
      clear hK K
      try simp only [Act.put, List.setIfInBounds_toArray, List.set_cons_zero, List.set_cons_succ]
      refine wpAnyH_ready (rs := [20]) (by kernel_rfl) (by simp) ?_
      refine AllReadyH.cons (o := ⟨some 32, _, _, _, _, _⟩) rfl (fun K hK => ?_) AllReadyH.nil
      obtain ⟨g8, cap8, w8, hrun8, hown8, q8, hs8⟩ := app_step q7 q7.size hown7 (by omega) (RD2.out _ q7) (by omega)
      rw [if_pos (by rfl)]
      refine oper_append (.tmp 29) (.tmp 31) _ _ rfl _ _ rfl rfl _ _ hrun8 ?_
      try simp only [Act.put, List.setIfInBounds_toArray, List.set_cons_zero, List.set_cons_succ]
      refine hK.out _ _ ?_ (fun hHeld => ?_)
      · exact ALL.out _ q8
      clear hK K
      try simp only [Act.put, List.setIfInBounds_toArray, List.set_cons_zero, List.set_cons_succ]
      refine wpAnyH_ready (rs := [21]) (by kernel_rfl) (by simp) ?_
      refine AllReadyH.cons (o := ⟨some 33, _, _, _, _, _⟩) rfl (fun K hK => ?_) AllReadyH.nil
      go_simp
      have q9 : Below wE.heap.size wE (w8.alloc (.cells #[.slice (some ⟨g8, 0, none⟩) (1 + 32 + 32) cap8] 24)) := q8.alloc q8.size _
      refine hK.out _ _ ?_ (fun hHeld => ?_)
      · exact ALL.out _ q9
      clear hK K
      try simp only [Act.put, List.setIfInBounds_toArray, List.set_cons_zero, List.set_cons_succ]
      refine wpAnyH_ready (rs := [22]) (by kernel_rfl) (by simp) ?_
      refine AllReadyH.cons (o := ⟨some 34, _, _, _, _, _⟩) rfl (fun K hK => ?_) AllReadyH.nil
      go_simp
      have ho := of_own hTE.out q8 hown8 (by simp [id32]) (by omega)
      rw [EN.out] at ho
      refine ho.mono ?_
      rintro e w10 ⟨rfl, hb10⟩
      have q10 : Below wE.heap.size wE w10 := Kp.call q9 hb10
      dsimp only
      refine hK.out _ _ ?_ (fun hHeld => ?_)
      · exact ALL.out _ q10
      clear hK K
      try simp only [Act.put, List.setIfInBounds_toArray, List.set_cons_zero, List.set_cons_succ]
      refine wpAnyH_take (i := 23) (oi := ⟨some 35, _, _, _, _, _⟩) (v := ?_) rfl (by kernel_rfl) (by kernel_rfl) (by kernel_rfl) (fun _ _ _ h => h) (Or.inl ⟨by rfl, ?_⟩) (by assumption) ?_
      rotate_left
      · intro w hSw; (try dsimp only at hSw); go_simp; try (with_reducible rfl)
      rotate_left 0
      try simp only [Act.put, List.setIfInBounds_toArray, List.set_cons_zero, List.set_cons_succ]
      refine wpAnyH_take (i := 24) (oi := ⟨some 36, _, _, _, _, _⟩) (v := ?_) rfl (by kernel_rfl) (by kernel_rfl) (by kernel_rfl) (fun _ _ _ h => h) (Or.inl ⟨by rfl, ?_⟩) (by assumption) ?_
      rotate_left
      · intro w hSw; (try dsimp only at hSw); go_simp; try (with_reducible rfl)
      rotate_left 0
      try simp only [Act.put, List.setIfInBounds_toArray, List.set_cons_zero, List.set_cons_succ]
      refine wpAnyH_take (i := 25) (oi := ⟨some 4, _, _, _, _, _⟩) (v := ?_) rfl (by kernel_rfl) (by kernel_rfl) (by kernel_rfl) (fun _ _ _ h => h) (Or.inl ⟨by rfl, ?_⟩) (by assumption) ?_
      rotate_left
      · intro w hSw; (try dsimp only at hSw); go_simp; try (with_reducible rfl)
      rotate_left 0
      try simp only [Act.put, List.setIfInBounds_toArray, List.set_cons_zero, List.set_cons_succ]
      refine wpAnyH_done (by kernel_rfl) ?_ _
      have HQ := Lib.hid q10
      clear hHeld hbn hb10 q10 q9 q8 q7 qn qm hTE ALL NO RD1 RD2 hqL hqN hu
      go_wp2
      go_ret
      exact ⟨rfl, HWE.out.trans (HQ.out.mono HWE.out.size)⟩
    · go_simp
      have qm : Below wE.heap.size wE (w6.alloc (.cells #[.int .u8 1] 5)) := q6.alloc q6.size _
      have ownm : (w6.alloc (.cells #[.int .u8 1] 5)).ownsRow wE.heap.size 5 1 (.slice (some ⟨w6.heap.size, 0, none⟩) 1 1) 1 ([1].map bv) := own_one _ _ q6.size 1
      refine hK.out _ _ ?_ (fun hHeld => ?_)
      · exact ALL.out _ qm
      clear hK K
      try simp only [Act.put, List.setIfInBounds_toArray, List.set_cons_zero, List.set_cons_succ]
      refine wpAnyH_ready (rs := [13]) (by kernel_rfl) (by simp) ?_
      refine AllReadyH.cons (o := ⟨some 25, _, _, _, _, _⟩) rfl (fun K hK => ?_) AllReadyH.nil
      go_simp
      refine (NO.out _ qm).mono ?_
      rintro e wn ⟨rfl, hbn⟩
      have qn : Below wE.heap.size wE wn := Kp.call qm hbn
      dsimp only
      refine hK.out _ _ ?_ (fun hHeld => ?_)
      · exact ALL.out _ qn
      clear hK K
      try simp only [Act.put, List.setIfInBounds_toArray, List.set_cons_zero, List.set_cons_succ]
      have ownn := ownsRow_kept ownm hbn
      refine wpAnyH_ready (rs := [17]) (by kernel_rfl) (by simp) ?_
      refine AllReadyH.cons (o := ⟨some 29, _, _, _, _, _⟩) rfl (fun K hK => ?_) AllReadyH.nil
      obtain ⟨g7, cap7, w7, hrun7, hown7, q7, hs7⟩ := app_step qn qn.size ownn (by omega) (RD1.out _ qn) (by omega)
      rw [if_pos (by rfl)]
      refine oper_append (.tmp 26) (.tmp 28) _ _ rfl _ _ rfl rfl _ _ hrun7 ?_
      try simp only [Act.put, List.setIfInBounds_toArray, List.set_cons_zero, List.set_cons_succ]
      refine hK.out _ _ ?_ (fun hHeld => ?_)
      · exact ALL.out _ q7
      clear hK K
      try simp only [Act.put, List.setIfInBounds_toArray, List.set_cons_zero, List.set_cons_succ]
      refine wpAnyH_ready (rs := [20]) (by kernel_rfl) (by simp) ?_
      refine AllReadyH.cons (o := ⟨some 32, _, _, _, _, _⟩) rfl (fun K hK => ?_) AllReadyH.nil
      obtain ⟨g8, cap8, w8, hrun8, hown8, q8, hs8⟩ := app_step q7 q7.size hown7 (by omega) (RD2.out _ q7) (by omega)
      rw [if_pos (by rfl)]
      refine oper_append (.tmp 29) (.tmp 31) _ _ rfl _ _ rfl rfl _ _ hrun8 ?_
      try simp only [Act.put, List.setIfInBounds_toArray, List.set_cons_zero, List.set_cons_succ]
      refine hK.out _ _ ?_ (fun hHeld => ?_)
      · exact ALL.out _ q8
      clear hK K
      try simp only [Act.put, List.setIfInBounds_toArray, List.set_cons_zero, List.set_cons_succ]
      refine wpAnyH_ready (rs := [21]) (by kernel_rfl) (by simp) ?_
      refine AllReadyH.cons (o := ⟨some 33, _, _, _, _, _⟩) rfl (fun K hK => ?_) AllReadyH.nil
      go_simp
      have q9 : Below wE.heap.size wE (w8.alloc (.cells #[.slice (some ⟨g8, 0, none⟩) (1 + 32 + 32) cap8] 24)) := q8.alloc q8.size _
      refine hK.out _ _ ?_ (fun hHeld => ?_)
      · exact ALL.out _ q9
      clear hK K
      try simp only [Act.put, List.setIfInBounds_toArray, List.set_cons_zero, List.set_cons_succ]
      refine wpAnyH_ready (rs := [22]) (by kernel_rfl) (by simp) ?_
      refine AllReadyH.cons (o := ⟨some 34, _, _, _, _, _⟩) rfl (fun K hK => ?_) AllReadyH.nil
      go_simp
      have ho := of_own hTE.out q8 hown8 (by simp [id32]) (by omega)
      rw [EN.out] at ho
      refine ho.mono ?_
      rintro e w10 ⟨rfl, hb10⟩
      have q10 : Below wE.heap.size wE w10 := Kp.call q9 hb10
      dsimp only
      refine hK.out _ _ ?_ (fun hHeld => ?_)
      · exact ALL.out _ q10
      clear hK K
      try simp only [Act.put, List.setIfInBounds_toArray, List.set_cons_zero, List.set_cons_succ]
      refine wpAnyH_take (i := 23) (oi := ⟨some 35, _, _, _, _, _⟩) (v := ?_) rfl (by kernel_rfl) (by kernel_rfl) (by kernel_rfl) (fun _ _ _ h => h) (Or.inl ⟨by rfl, ?_⟩) (by assumption) ?_
      rotate_left
      · intro w hSw; (try dsimp only at hSw); go_simp; try (with_reducible rfl)
      rotate_left 0
      try simp only [Act.put, List.setIfInBounds_toArray, List.set_cons_zero, List.set_cons_succ]
      refine wpAnyH_take (i := 24) (oi := ⟨some 36, _, _, _, _, _⟩) (v := ?_) rfl (by kernel_rfl) (by kernel_rfl) (by kernel_rfl) (fun _ _ _ h => h) (Or.inl ⟨by rfl, ?_⟩) (by assumption) ?_
      rotate_left
      · intro w hSw; (try dsimp only at hSw); go_simp; try (with_reducible rfl)
      rotate_left 0
      try simp only [Act.put, List.setIfInBounds_toArray, List.set_cons_zero, List.set_cons_succ]
      refine wpAnyH_take (i := 25) (oi := ⟨some 4, _, _, _, _, _⟩) (v := ?_) rfl (by kernel_rfl) (by kernel_rfl) (by kernel_rfl) (fun _ _ _ h => h) (Or.inl ⟨by rfl, ?_⟩) (by assumption) ?_
      rotate_left
      · intro w hSw; (try dsimp only at hSw); go_simp; try (with_reducible rfl)
      rotate_left 0
      try simp only [Act.put, List.setIfInBounds_toArray, List.set_cons_zero, List.set_cons_succ]
      refine wpAnyH_done (by kernel_rfl) ?_ _
      have HQ := Lib.hid q10
      clear hHeld hbn hb10 q10 q9 q8 q7 qn qm hTE ALL NO RD1 RD2 hqL hqN hu
      go_wp2
      go_ret
      exact ⟨rfl, HWE.out.trans (HQ.out.mono HWE.out.size)⟩
  · go_simp
    have qk : Below wE.heap.size wE (wE.alloc (.cells #[.int .u8 0] 5)).drew := ((Below.refl _ wE).alloc (Nat.le_refl _) _).drew
    have ownk : (wE.alloc (.cells #[.int .u8 0] 5)).drew.ownsRow wE.heap.size 5 1 (.slice (some ⟨wE.heap.size, 0, none⟩) 1 1) 1 ([0].map bv) := own_one wE _ (Nat.le_refl _) 0
    refine hK.out _ _ ?_ (fun hHeld => ?_)
    · exact ALL.out _ qk
    clear hK K
    try simp only [Act.put, List.setIfInBounds_toArray, List.set_cons_zero, List.set_cons_succ]
    refine wpAnyH_ready (rs := [1]) (by kernel_rfl) (by simp) ?_
    refine AllReadyH.cons (o := ⟨some 13, _, _, _, _, _⟩) rfl (fun K hK => ?_) AllReadyH.nil
    go_simp
    refine (LE.out _ qk).mono ?_
    rintro e wl ⟨rfl, hbl⟩
    have ql : Below wE.heap.size wE wl := Kp.call qk hbl
    dsimp only
    refine hK.out _ _ ?_ (fun hHeld => ?_)
    · exact ALL.out _ ql
    clear hK K
    try simp only [Act.put, List.setIfInBounds_toArray, List.set_cons_zero, List.set_cons_succ]
    have ownl := ownsRow_kept ownk hbl
    refine wpAnyH_ready (rs := [4]) (by kernel_rfl) (by simp) ?_
    refine AllReadyH.cons (o := ⟨some 16, _, _, _, _, _⟩) rfl (fun K hK => ?_) AllReadyH.nil
    obtain ⟨g4, cap4, w4, hrun4, hown4, q4, hs4⟩ := app_step ql ql.size ownl (by omega) (RDY.out _ ql) (by omega)
    rw [if_pos (by rfl)]
    refine oper_append (.tmp 14) (.tmp 15) _ _ rfl _ _ rfl rfl _ _ hrun4 ?_
    try simp only [Act.put, List.setIfInBounds_toArray, List.set_cons_zero, List.set_cons_succ]
    refine hK.out _ _ ?_ (fun hHeld => ?_)
    · exact ALL.out _ q4
    clear hK K
    try simp only [Act.put, List.setIfInBounds_toArray, List.set_cons_zero, List.set_cons_succ]
    refine wpAnyH_ready (rs := [5]) (by kernel_rfl) (by simp) ?_
    refine AllReadyH.cons (o := ⟨some 17, _, _, _, _, _⟩) rfl (fun K hK => ?_) AllReadyH.nil
    go_simp
    have q5 : Below wE.heap.size wE (w4.alloc (.cells #[.slice (some ⟨g4, 0, none⟩) (1 + m) cap4] 24)) := q4.alloc q4.size _
    refine hK.out _ _ ?_ (fun hHeld => ?_)
    · exact ALL.out _ q5
    clear hK K
    try simp only [Act.put, List.setIfInBounds_toArray, List.set_cons_zero, List.set_cons_succ]
    refine wpAnyH_ready (rs := [6]) (by kernel_rfl) (by simp) ?_
    refine AllReadyH.cons (o := ⟨some 18, _, _, _, _, _⟩) rfl (fun K hK => ?_) AllReadyH.nil
    go_simp
    have ho := of_own hTE.out q4 hown4 (by have := HY.out; simp; omega) (by omega)
    rw [EL.out] at ho
    refine ho.mono ?_
    rintro e w6 ⟨rfl, hb6⟩
    have q6 : Below wE.heap.size wE w6 := Kp.call q5 hb6
    dsimp only
    refine hK.out _ _ ?_ (fun hHeld => ?_)
    · exact ALL.out _ q6
    clear hK K
    try simp only [Act.put, List.setIfInBounds_toArray, List.set_cons_zero, List.set_cons_succ]
    refine wpAnyH_take (i := 7) (oi := ⟨some 19, _, _, _, _, _⟩) (v := ?_) rfl (by kernel_rfl) (by kernel_rfl) (by kernel_rfl) (fun _ _ _ h => h) (Or.inl ⟨by rfl, ?_⟩) (by assumption) ?_
    rotate_left
    · intro w hSw; (try dsimp only at hSw); go_simp; try (with_reducible rfl)
    rotate_left 0
    try simp only [Act.put, List.setIfInBounds_toArray, List.set_cons_zero, List.set_cons_succ]
    refine wpAnyH_take (i := 8) (oi := ⟨some 20, _, _, _, _, _⟩) (v := ?_) rfl (by kernel_rfl) (by kernel_rfl) (by kernel_rfl) (fun _ _ _ h => h) (Or.inl ⟨by rfl, ?_⟩) (by assumption) ?_
    rotate_left
    · intro w hSw; (try dsimp only at hSw); go_simp; try (with_reducible rfl)
    rotate_left 0
    try simp only [Act.put, List.setIfInBounds_toArray, List.set_cons_zero, List.set_cons_succ]
    refine wpAnyH_take (i := 9) (oi := ⟨some 21, _, _, _, _, _⟩) (v := ?_) rfl (by kernel_rfl) (by kernel_rfl) (by kernel_rfl) (fun _ _ _ h => h) (Or.inl ⟨by rfl, ?_⟩) (by assumption) ?_
    rotate_left
    · intro w hSw; (try dsimp only at hSw); go_simp; try (with_reducible rfl)
    rotate_left 0
    try simp only [Act.put, List.setIfInBounds_toArray, List.set_cons_zero, List.set_cons_succ]
    refine wpAnyH_take (i := 11) (oi := ⟨some 23, _, _, _, _, _⟩) (v := ?_) rfl (by kernel_rfl) (by kernel_rfl) (by kernel_rfl) (fun _ _ _ h => h) (Or.inl ⟨by rfl, ?_⟩) (by assumption) ?_
    rotate_left
    · intro w hSw; (try dsimp only at hSw); go_simp; try (with_reducible rfl)
    rotate_left 0
    try simp only [Act.put, List.setIfInBounds_toArray, List.set_cons_zero, List.set_cons_succ]
    refine wpAnyH_take (i := 15) (oi := ⟨some 27, _, _, _, _, _⟩) (v := ?_) rfl (by kernel_rfl) (by kernel_rfl) (by kernel_rfl) (fun _ _ _ h => h) (Or.inl ⟨by rfl, ?_⟩) (by assumption) ?_
    rotate_left
    · intro w hSw; (try dsimp only at hSw); go_simp; try (with_reducible rfl)
    rotate_left 0
    try simp only [Act.put, List.setIfInBounds_toArray, List.set_cons_zero, List.set_cons_succ]
    refine wpAnyH_take (i := 18) (oi := ⟨some 30, _, _, _, _, _⟩) (v := ?_) rfl (by kernel_rfl) (by kernel_rfl) (by kernel_rfl) (fun _ _ _ h => h) (Or.inl ⟨by rfl, ?_⟩) (by assumption) ?_
    rotate_left
    · intro w hSw; (try dsimp only at hSw); go_simp; try (with_reducible rfl)
    rotate_left 0
    try simp only [Act.put, List.setIfInBounds_toArray, List.set_cons_zero, List.set_cons_succ]
    refine wpAnyH_take (i := 16) (oi := ⟨some 28, _, _, _, _, _⟩) (v := ?_) rfl (by kernel_rfl) (by kernel_rfl) (by kernel_rfl) (fun _ _ _ h => h) (Or.inl ⟨by rfl, ?_⟩) (by assumption) ?_
    rotate_left
    · intro w hSw; (try dsimp only at hSw); go_simp; try (with_reducible rfl)
    rotate_left 0
    try simp only [Act.put, List.setIfInBounds_toArray, List.set_cons_zero, List.set_cons_succ]
    refine wpAnyH_take (i := 19) (oi := ⟨some 31, _, _, _, _, _⟩) (v := ?_) rfl (by kernel_rfl) (by kernel_rfl) (by kernel_rfl) (fun _ _ _ h => h) (Or.inl ⟨by rfl, ?_⟩) (by assumption) ?_
    rotate_left
    · intro w hSw; (try dsimp only at hSw); go_simp; try (with_reducible rfl)
    rotate_left 0
    try simp only [Act.put, List.setIfInBounds_toArray, List.set_cons_zero, List.set_cons_succ]
    refine wpAnyH_take (i := 10) (oi := ⟨some 22, _, _, _, _, _⟩) (v := _) rfl (by kernel_rfl) (by kernel_rfl) (by kernel_rfl) (fun _ _ _ h => h) (yieldsIf_load_mid (by rfl) _ _ rfl _ _ rfl cl _ (fun _ hS => hS.1) hu rfl HLI.out) (by assumption) ?_
    try simp only [Act.put, List.setIfInBounds_toArray, List.set_cons_zero, List.set_cons_succ]
    refine wpAnyH_take (i := 12) (oi := ⟨some 24, _, _, _, _, _⟩) (v := _) rfl (by kernel_rfl) (by kernel_rfl) (by kernel_rfl) (fun _ _ _ h => h) (yieldsIf_load_mid (by rfl) _ _ rfl _ _ rfl cr _ (fun _ hS => hS.2) hu rfl HRI.out) (by assumption) ?_
    try simp only [Act.put, List.setIfInBounds_toArray, List.set_cons_zero, List.set_cons_succ]
    refine wpAnyH_ready (rs := [13, 14]) (by kernel_rfl) (by simp) ?_
    refine AllReadyH.cons (o := ⟨some 25, _, _, _, _, _⟩) rfl (fun K hK => ?_) (AllReadyH.cons (o := ⟨some 26, _, _, _, _, _⟩) rfl (fun K hK => ?_) AllReadyH.nil)
    · go_simp
      refine (NO.out _ q6).mono ?_
      rintro e wn ⟨rfl, hbn⟩
      have qn : Below wE.heap.size wE wn := Kp.call q6 hbn
      dsimp only
      refine hK.out _ _ ?_ (fun hHeld => ?_)
      · exact ALL.out _ qn
      clear hK K
      try simp only [Act.put, List.setIfInBounds_toArray, List.set_cons_zero, List.set_cons_succ]
      refine wpAnyH_ready (rs := [14]) (by kernel_rfl) (by simp) ?_
      refine AllReadyH.cons (o := ⟨some 26, _, _, _, _, _⟩) rfl (fun K hK => ?_) AllReadyH.nil
      go_simp
      have qm : Below wE.heap.size wE (wn.alloc (.cells #[.int .u8 1] 5)) := qn.alloc qn.size _
      refine hK.out _ _ ?_ (fun hHeld => ?_)
      · exact ALL.out _ qm
      clear hK K
      try simp only [Act.put, List.setIfInBounds_toArray, List.set_cons_zero, List.set_cons_succ]
      have ownm : (wn.alloc (.cells #[.int .u8 1] 5)).ownsRow wE.heap.size 5 1 (.slice (some ⟨wn.heap.size, 0, none⟩) 1 1) 1 ([1].map bv) := own_one _ _ qn.size 1
      refine wpAnyH_ready (rs := [17]) (by kernel_rfl) (by simp) ?_
      refine AllReadyH.cons (o := ⟨some 29, _, _, _, _, _⟩) rfl (fun K hK => ?_) AllReadyH.nil
      obtain ⟨g7, cap7, w7, hrun7, hown7, q7, hs7⟩ := app_step qm qm.size ownm (by omega) (RD1.out _ qm) (by omega)
      rw [if_pos (by rfl)]
      refine oper_append (.tmp 26) (.tmp 28) _ _ rfl _ _ rfl rfl _ _ hrun7 ?_
      try simp only [Act.put, List.setIfInBounds_toArray, List.set_cons_zero, List.set_cons_succ]
      refine hK.out _ _ ?_ (fun hHeld => ?_)
      · exact ALL.out _ q7
      clear hK K
      try simp only [Act.put, List.setIfInBounds_toArray, List.set_cons_zero, List.set_cons_succ]
      refine wpAnyH_ready (rs := [20]) (by kernel_rfl) (by simp) ?_
      refine AllReadyH.cons (o := ⟨some 32, _, _, _, _, _⟩) rfl (fun K hK => ?_) AllReadyH.nil
      obtain ⟨g8, cap8, w8, hrun8, hown8, q8, hs8⟩ := app_step q7 q7.size hown7 (by omega) (RD2.out _ q7) (by omega)
      rw [if_pos (by rfl)]
      refine oper_append (.tmp 29) (.tmp 31) _ _ rfl _ _ rfl rfl _ _ hrun8 ?_
      try simp only [Act.put, List.setIfInBounds_toArray, List.set_cons_zero, List.set_cons_succ]
      refine hK.out _ _ ?_ (fun hHeld => ?_)
      · exact ALL.out _ q8
      clear hK K
      try simp only [Act.put, List.setIfInBounds_toArray, List.set_cons_zero, List.set_cons_succ]
      refine wpAnyH_ready (rs := [21]) (by kernel_rfl) (by simp) ?_
      refine AllReadyH.cons (o := ⟨some 33, _, _, _, _, _⟩) rfl (fun K hK => ?_) AllReadyH.nil
      go_simp
      have q9 : Below wE.heap.size wE (w8.alloc (.cells #[.slice (some ⟨g8, 0, none⟩) (1 + 32 + 32) cap8] 24)) := q8.alloc q8.size _
      refine hK.out _ _ ?_ (fun hHeld => ?_)
      · exact ALL.out _ q9
      clear hK K
      try simp only [Act.put, List.setIfInBounds_toArray, List.set_cons_zero, List.set_cons_succ]
      refine wpAnyH_ready (rs := [22]) (by kernel_rfl) (by simp) ?_
      refine AllReadyH.cons (o := ⟨some 34, _, _, _, _, _⟩) rfl (fun K hK => ?_) AllReadyH.nil
      go_simp
      have ho := of_own hTE.out q8 hown8 (by simp [id32]) (by omega)
      rw [EN.out] at ho
      refine ho.mono ?_
      rintro e w10 ⟨rfl, hb10⟩
      have q10 : Below wE.heap.size wE w10 := Kp.call q9 hb10
      dsimp only
      refine hK.out _ _ ?_ (fun hHeld => ?_)
      · exact ALL.out _ q10
      clear hK K
      try simp only [Act.put, List.setIfInBounds_toArray, List.set_cons_zero, List.set_cons_succ]
      refine wpAnyH_take (i := 23) (oi := ⟨some 35, _, _, _, _, _⟩) (v := ?_) rfl (by kernel_rfl) (by kernel_rfl) (by kernel_rfl) (fun _ _ _ h => h) (Or.inl ⟨by rfl, ?_⟩) (by assumption) ?_
      rotate_left
      · intro w hSw; (try dsimp only at hSw); go_simp; try (with_reducible rfl)
      rotate_left 0
      try simp only [Act.put, List.setIfInBounds_toArray, List.set_cons_zero, List.set_cons_succ]
      refine wpAnyH_take (i := 24) (oi := ⟨some 36, _, _, _, _, _⟩) (v := ?_) rfl (by kernel_rfl) (by kernel_rfl) (by kernel_rfl) (fun _ _ _ h => h) (Or.inl ⟨by rfl, ?_⟩) (by assumption) ?_
      rotate_left
      · intro w hSw; (try dsimp only at hSw); go_simp; try (with_reducible rfl)
      rotate_left 0
      try simp only [Act.put, List.setIfInBounds_toArray, List.set_cons_zero, List.set_cons_succ]
      refine wpAnyH_take (i := 25) (oi := ⟨some 4, _, _, _, _, _⟩) (v := ?_) rfl (by kernel_rfl) (by kernel_rfl) (by kernel_rfl) (fun _ _ _ h => h) (Or.inl ⟨by rfl, ?_⟩) (by assumption) ?_
      rotate_left
      · intro w hSw; (try dsimp only at hSw); go_simp; try (with_reducible rfl)
      rotate_left 0
      try simp only [Act.put, List.setIfInBounds_toArray, List.set_cons_zero, List.set_cons_succ]
      refine wpAnyH_done (by kernel_rfl) ?_ _
      have HQ := Lib.hid q10
      clear hHeld hbn hb10 q10 q9 q8 q7 qn qm hTE ALL NO RD1 RD2 hqL hqN hu
      go_wp2
      go_ret
      exact ⟨rfl, HWE.out.trans (HQ.out.mono HWE.out.size)⟩
    · go_simp
      have qm : Below wE.heap.size wE (w6.alloc (.cells #[.int .u8 1] 5)) := q6.alloc q6.size _
      have ownm : (w6.alloc (.cells #[.int .u8 1] 5)).ownsRow wE.heap.size 5 1 (.slice (some ⟨w6.heap.size, 0, none⟩) 1 1) 1 ([1].map bv) := own_one _ _ q6.size 1
      refine hK.out _ _ ?_ (fun hHeld => ?_)
      · exact ALL.out _ qm
      clear hK K
      try simp only [Act.put, List.setIfInBounds_toArray, List.set_cons_zero, List.set_cons_succ]
      refine wpAnyH_ready (rs := [13]) (by kernel_rfl) (by simp) ?_
      refine AllReadyH.cons (o := ⟨some 25, _, _, _, _, _⟩) rfl (fun K hK => ?_) AllReadyH.nil
      go_simp
      refine (NO.out _ qm).mono ?_
      rintro e wn ⟨rfl, hbn⟩
      have qn : Below wE.heap.size wE wn := Kp.call qm hbn
      dsimp only
      refine hK.out _ _ ?_ (fun hHeld => ?_)
      · exact ALL.out _ qn
      clear hK K
      try simp only [Act.put, List.setIfInBounds_toArray, List.set_cons_zero, List.set_cons_succ]
      have ownn := ownsRow_kept ownm hbn
      refine wpAnyH_ready (rs := [17]) (by kernel_rfl) (by simp) ?_
      refine AllReadyH.cons (o := ⟨some 29, _, _, _, _, _⟩) rfl (fun K hK => ?_) AllReadyH.nil
      obtain ⟨g7, cap7, w7, hrun7, hown7, q7, hs7⟩ := app_step qn qn.size ownn (by omega) (RD1.out _ qn) (by omega)
      rw [if_pos (by rfl)]
      refine oper_append (.tmp 26) (.tmp 28) _ _ rfl _ _ rfl rfl _ _ hrun7 ?_
      try simp only [Act.put, List.setIfInBounds_toArray, List.set_cons_zero, List.set_cons_succ]
      refine hK.out _ _ ?_ (fun hHeld => ?_)
      · exact ALL.out _ q7
      clear hK K
      try simp only [Act.put, List.setIfInBounds_toArray, List.set_cons_zero, List.set_cons_succ]
      refine wpAnyH_ready (rs := [20]) (by kernel_rfl) (by simp) ?_
      refine AllReadyH.cons (o := ⟨some 32, _, _, _, _, _⟩) rfl (fun K hK => ?_) AllReadyH.nil
      obtain ⟨g8, cap8, w8, hrun8, hown8, q8, hs8⟩ := app_step q7 q7.size hown7 (by omega) (RD2.out _ q7) (by omega)
      rw [if_pos (by rfl)]
      refine oper_append (.tmp 29) (.tmp 31) _ _ rfl _ _ rfl rfl _ _ hrun8 ?_
      try simp only [Act.put, List.setIfInBounds_toArray, List.set_cons_zero, List.set_cons_succ]
      refine hK.out _ _ ?_ (fun hHeld => ?_)
      · exact ALL.out _ q8
      clear hK K
      try simp only [Act.put, List.setIfInBounds_toArray, List.set_cons_zero, List.set_cons_succ]
      refine wpAnyH_ready (rs := [21]) (by kernel_rfl) (by simp) ?_
      refine AllReadyH.cons (o := ⟨some 33, _, _, _, _, _⟩) rfl (fun K hK => ?_) AllReadyH.nil
      go_simp
      have q9 : Below wE.heap.size wE (w8.alloc (.cells #[.slice (some ⟨g8, 0, none⟩) (1 + 32 + 32) cap8] 24)) := q8.alloc q8.size _
      refine hK.out _ _ ?_ (fun hHeld => ?_)
      · exact ALL.out _ q9
      clear hK K
      try simp only [Act.put, List.setIfInBounds_toArray, List.set_cons_zero, List.set_cons_succ]
      refine wpAnyH_ready (rs := [22]) (by kernel_rfl) (by simp) ?_
      refine AllReadyH.cons (o := ⟨some 34, _, _, _, _, _⟩) rfl (fun K hK => ?_) AllReadyH.nil
      go_simp
      have ho := of_own hTE.out q8 hown8 (by simp [id32]) (by omega)
      rw [EN.out] at ho
      refine ho.mono ?_
      rintro e w10 ⟨rfl, hb10⟩
      have q10 : Below wE.heap.size wE w10 := Kp.call q9 hb10
      dsimp only
      refine hK.out _ _ ?_ (fun hHeld => ?_)
      · exact ALL.out _ q10
      clear hK K
      try simp only [Act.put, List.setIfInBounds_toArray, List.set_cons_zero, List.set_cons_succ]
      refine wpAnyH_take (i := 23) (oi := ⟨some 35, _, _, _, _, _⟩) (v := ?_) rfl (by kernel_rfl) (by kernel_rfl) (by kernel_rfl) (fun _ _ _ h => h) (Or.inl ⟨by rfl, ?_⟩) (by assumption) ?_
      rotate_left
      · intro w hSw; (try dsimp only at hSw); go_simp; try (with_reducible rfl)
      rotate_left 0
      try simp only [Act.put, List.setIfInBounds_toArray, List.set_cons_zero, List.set_cons_succ]
      refine wpAnyH_take (i := 24) (oi := ⟨some 36, _, _, _, _, _⟩) (v := ?_) rfl (by kernel_rfl) (by kernel_rfl) (by kernel_rfl) (fun _ _ _ h => h) (Or.inl ⟨by rfl, ?_⟩) (by assumption) ?_
      rotate_left
      · intro w hSw; (try dsimp only at hSw); go_simp; try (with_reducible rfl)
      rotate_left 0
      try simp only [Act.put, List.setIfInBounds_toArray, List.set_cons_zero, List.set_cons_succ]
      refine wpAnyH_take (i := 25) (oi := ⟨some 4, _, _, _, _, _⟩) (v := ?_) rfl (by kernel_rfl) (by kernel_rfl) (by kernel_rfl) (fun _ _ _ h => h) (Or.inl ⟨by rfl, ?_⟩) (by assumption) ?_
      rotate_left
      · intro w hSw; (try dsimp only at hSw); go_simp; try (with_reducible rfl)
      rotate_left 0
      try simp only [Act.put, List.setIfInBounds_toArray, List.set_cons_zero, List.set_cons_succ]
      refine wpAnyH_done (by kernel_rfl) ?_ _
      have HQ := Lib.hid q10
      clear hHeld hbn hb10 q10 q9 q8 q7 qn qm hTE ALL NO RD1 RD2 hqL hqN hu
      go_wp2
      go_ret
      exact ⟨rfl, HWE.out.trans (HQ.out.mono HWE.out.size)⟩
end Go.Proofs.YtghjdelijmlemaaDoor
