/-
  proof's halve: of every part of two leaves or more. No condition.
-/
import Derived.Test.YtphknicdllcbmaaDoorPrfMath
import Derived.Test.YtphknicdllcbmaaDoorRegT
import Derived.Deep.CutRange
namespace Go.Proofs.YtphknicdllcbmaaDoor
open Go Go.RowKit Go.Shelf TreeM

section
variable {K : Act → World → Prop} {a : Act} {w : World} {p : Addr} {v : Value}
theorem set_gen (h : ∀ w', (∀ g t cs, Blk w g t cs → g ≠ p.block → Blk w' g t cs) → (∀ t cs, Blk w p.block t cs → p.spot = none → Blk w' p.block t (cs.setIfInBounds p.off v)) → w'.heap.size = w.heap.size → (∀ B, B ≤ p.block → Below B w w') → K a w') : K a (w.setCell p v) :=
  h _ (fun _ _ _ hb hn => hb.far hn v) (fun t cs hb hs => by
    obtain ⟨b, o, s⟩ := p
    cases hs
    exact hb.store o v) (by simp [World.setCell]) (fun B hB => (Below.refl B w).setCell hB v)
theorem set_genD (h : ∀ w', (∀ g t cs, Blk w g t cs → g ≠ p.block → Blk w' g t cs) → (∀ t cs, Blk w p.block t cs → p.spot = none → Blk w' p.block t (cs.setIfInBounds p.off v)) → w'.heap.size = w.heap.size → (∀ B, B ≤ p.block → Below B w w') → K a w') : K a (w.setCell p v).drew :=
  h _ (fun _ _ _ hb hn => (hb.far hn v).drew) (fun t cs hb hs => by
    obtain ⟨b, o, s⟩ := p
    cases hs
    exact (hb.store o v).drew) (by simp [World.setCell]) (fun B hB => ((Below.refl B w).setCell hB v).drew)
end
theorem results_rows2 {P : Program} {fn : Func} {p q : Tmp} {ty : TypeId} (h : fn.results = #[.cell p ty, .cell q ty]) (tmps : Array Value) (w : World) (g g' : Nat) (t : TypeId) (cs cs' : Array Value) (d : TypeDesc)
    (hp : tmps.getD p undef = .pointer (some ⟨g, 0, none⟩)) (hq : tmps.getD q undef = .pointer (some ⟨g', 0, none⟩)) (hg : Blk w g t cs) (hg' : Blk w g' t cs')
    (hu : P.underlying ty = some d) (hd : (match d with | .struct _ | .array _ _ => true | _ => false) = true) (hi : (P.info? ty).map (·.size) = some cs.size) (hi' : (P.info? ty).map (·.size) = some cs'.size) :
    (results fn tmps).run P w = .ok (.tuple #[.agg cs, .agg cs']) w := by
  have hp' : tmps[p]?.getD undef = .pointer (some ⟨g, 0, none⟩) := by simpa using hp
  have hq' : tmps[q]?.getD undef = .pointer (some ⟨g', 0, none⟩) := by simpa using hq
  simp [results, h, hp', hq', asAddr, run_loadVar_row w g t ty cs (0, 0) d hg hu hd hi, run_loadVar_row w g' t ty cs' (0, 0) d hg' hu hd hi']
def ptc (p : Pt) : Array Value := #[.int .i64 (p.1 : Int), .int .i64 (p.2 : Int)]
def ptv (p : Pt) : Value := .agg (ptc p)
set_option maxRecDepth 100000 in
set_option maxHeartbeats 1000000 in
theorem halve_any (a f t : Nat) (h2 : f + 2 ≤ t) (ht : t ≤ 1099511627776) (_ha : a ≤ 1099511627776) (w : World) :
    Calls Tryd.prog 53 #[.agg #[.int .i64 (f : Int), .int .i64 (t : Int)], .int .i64 (a : Int)] w fun e w' => e = .returned (.tuple #[ptv (inP a f t), ptv (besP a f t)]) ∧ Below w.heap.size w w' := by
  obtain ⟨W0, hW0⟩ : ∃ W0, (((w.alloc (.cells #[.int .i64 (f : Int), .int .i64 (t : Int)] 75)).alloc (.cells #[.int .i64 0, .int .i64 0] 75)).alloc (.cells #[.int .i64 0, .int .i64 0] 75)) = W0 := ⟨_, rfl⟩
  have h2b : Blk W0 w.heap.size 75 #[.int .i64 (f : Int), .int .i64 (t : Int)] := by rw [← hW0]; exact ((Blk.new w _ _).alloc _).alloc _
  have h4b : Blk W0 (w.heap.size + 1) 75 #[.int .i64 0, .int .i64 0] := by rw [← hW0]; exact (Blk.newAt _ _ (by simp) rfl).alloc _
  have h5b : Blk W0 (w.heap.size + 1 + 1) 75 #[.int .i64 0, .int .i64 0] := by rw [← hW0]; exact Blk.newAt _ _ (by simp) rfl
  have hb0 : Below w.heap.size w W0 := by rw [← hW0]; exact (((Below.refl _ _).alloc (Nat.le_refl _) _).alloc (by simp) _).alloc (by simp; omega) _
  have hz0 : W0.heap.size = w.heap.size + 3 := by rw [← hW0]; simp
  have hsub : (((t - f : Nat)) : Int) = (t : Int) - (f : Int) := by omega
  have HBL : Hid (∀ W, Calls Tryd.prog 60 #[.int .i64 ((t : Int) - (f : Int))] W fun e w' => e = .returned (.int .i64 (half (t - f) : Int)) ∧ w' = W) := Lib.hid fun W => by
    have := below_any (t - f) (by omega) (by omega) W
    rw [hsub] at this
    exact this
  have hkl := half_lt (n := t - f) (by omega)
  have H2 : Hid (∀ W, Below W0.heap.size W0 W → Blk W w.heap.size 75 #[.int .i64 (f : Int), .int .i64 (t : Int)]) := Lib.hid fun W hb => h2b.below hb h2b.lt
  have H4 : Hid (∀ W, Below W0.heap.size W0 W → Blk W (w.heap.size + 1) 75 #[.int .i64 0, .int .i64 0]) := Lib.hid fun W hb => h4b.below hb h4b.lt
  have H5 : Hid (∀ W, Below W0.heap.size W0 W → Blk W (w.heap.size + 1 + 1) 75 #[.int .i64 0, .int .i64 0]) := Lib.hid fun W hb => h5b.below hb h5b.lt
  have HB0 := Lib.hid hb0
  have HZ0 := Lib.hid hz0
  have HIN : Hid (inP a f t = if a < f + half (t - f) then (f, f + half (t - f)) else (f + half (t - f), t)) := Lib.hid rfl
  have HBS : Hid (besP a f t = if a < f + half (t - f) then (f + half (t - f), t) else (f, f + half (t - f))) := Lib.hid rfl
  generalize half (t - f) = k at *
  clear h2b h4b h5b hb0 hz0 hsub
  go_enter Tryd.func53, Tryd.ntmps53
  go_upto_region 1 with fail
  try rw [hW0]
  clear hW0
  have hbX : Below W0.heap.size W0 W0.drew := (Below.refl _ _).drew
  go_cut [6, 7] from 8 to 30 (fun s6 s7 wx => ∃ b6 b7, s6 = .pointer (some ⟨b6, 0, none⟩) ∧ s7 = .pointer (some ⟨b7, 0, none⟩) ∧ b6 ≠ b7 ∧ Blk wx b6 75 #[.int .i64 (f : Int), .int .i64 (t : Int)] ∧ Blk wx b7 75 #[.int .i64 (f : Int), .int .i64 (t : Int)] ∧ W0.heap.size ≤ b6 ∧ W0.heap.size ≤ b7 ∧ Below W0.heap.size W0 wx)
  case first =>
    refine wp_region_held_drew (S := fun W' => Blk W' w.heap.size 75 #[.int .i64 (f : Int), .int .i64 (t : Int)]) (by kernel_rfl) ?_ (fun hHeld => ?_)
    · exact H2.out _ hbX
    refine wpAnyH_take (i := 0) (oi := ⟨some 8, _, _, _, _, _⟩) (v := (.agg #[.int .i64 (f : Int), .int .i64 (t : Int)])) rfl (by kernel_rfl) (by kernel_rfl) (by kernel_rfl) (fun _ _ _ h => h) (yieldsIf_load_blk (by rfl) 75 _ rfl w.heap.size rfl 75 _ _ (fun _ hS => hS) Tryd.underlying75 rfl (by kernel_rfl)) (by assumption) ?_
    try simp only [Act.put, List.setIfInBounds_toArray, List.set_cons_zero, List.set_cons_succ]
    refine wpAnyH_take (i := 1) (oi := ⟨some 9, _, _, _, _, _⟩) (v := (.agg #[.int .i64 (f : Int), .int .i64 (t : Int)])) rfl (by kernel_rfl) (by kernel_rfl) (by kernel_rfl) (fun _ _ _ h => h) (yieldsIf_load_blk (by rfl) 75 _ rfl w.heap.size rfl 75 _ _ (fun _ hS => hS) Tryd.underlying75 rfl (by kernel_rfl)) (by assumption) ?_
    try simp only [Act.put, List.setIfInBounds_toArray, List.set_cons_zero, List.set_cons_succ]
    refine wpAnyH_ready (rs := [2, 3]) (by kernel_rfl) (by simp) ?_
    refine (AllReadyH.cons (o := ⟨some 6, _, _, _, _, _⟩) rfl (fun K hK => ?_) (AllReadyH.cons (o := ⟨some 7, _, _, _, _, _⟩) rfl (fun K hK => ?_) AllReadyH.nil))
    · (try rw [if_pos (by rfl)])
      go_simp
      first | refine alloc_gen ?_ | refine alloc_genD ?_
      intro Wa hka hba
      have hk6 := hka
      (try have hne := Nat.ne_of_gt (Blk.lt hk7))
      (try replace hk7 := Blk.below hk7 hba (Blk.lt hk7))
      have hg6 := hbX.size
      replace hbX : Below W0.heap.size W0 Wa := by first | exact hbX.trans (hba.mono hbX.size) | exact hba
      try dsimp only
      refine hK.out _ _ (H2.out _ hbX) (fun hHeld => ?_)
      clear hK K
      try simp only [Act.put, List.setIfInBounds_toArray, List.set_cons_zero, List.set_cons_succ]
      refine wpAnyH_ready (rs := [3]) (by kernel_rfl) (by simp) ?_
      refine (AllReadyH.cons (o := ⟨some 7, _, _, _, _, _⟩) rfl (fun K hK => ?_) AllReadyH.nil)
      (try rw [if_pos (by rfl)])
      go_simp
      first | refine alloc_gen ?_ | refine alloc_genD ?_
      intro Wa hka hba
      have hk7 := hka
      (try have hne := Nat.ne_of_lt (Blk.lt hk6))
      (try replace hk6 := Blk.below hk6 hba (Blk.lt hk6))
      have hg7 := hbX.size
      replace hbX : Below W0.heap.size W0 Wa := by first | exact hbX.trans (hba.mono hbX.size) | exact hba
      try dsimp only
      refine hK.out _ _ (H2.out _ hbX) (fun hHeld => ?_)
      clear hK K
      try simp only [Act.put, List.setIfInBounds_toArray, List.set_cons_zero, List.set_cons_succ]
      refine wpAnyH_ready (rs := [4]) (by kernel_rfl) (by simp) ?_
      refine (AllReadyH.cons (o := ⟨none, _, _, _, _, _⟩) rfl (fun K hK => ?_) AllReadyH.nil)
      (try rw [if_pos (by rfl)])
      refine wp_store_row 75 _ _ rfl _ #[.int .i64 (f : Int), .int .i64 (t : Int)] rfl rfl 75 _ hk6 (by kernel_rfl) rfl (by simp [Value.oneCell']) ?_
      replace hk7 := (setRow_other _ _ _ #[.int .i64 (f : Int), .int .i64 (t : Int)] (Ne.symm hne)).trans hk7
      replace hk6 := Blk.setRow hk6 #[.int .i64 (f : Int), .int .i64 (t : Int)]
      replace hbX := below_setRow hbX hg6 #[.int .i64 (f : Int), .int .i64 (t : Int)]
      try simp only [Act.put]
      try dsimp only
      refine hK.out _ _ (H2.out _ hbX) (fun hHeld => ?_)
      clear hK K
      try simp only [Act.put, List.setIfInBounds_toArray, List.set_cons_zero, List.set_cons_succ]
      refine wpAnyH_ready (rs := [5]) (by kernel_rfl) (by simp) ?_
      refine (AllReadyH.cons (o := ⟨none, _, _, _, _, _⟩) rfl (fun K hK => ?_) AllReadyH.nil)
      (try rw [if_pos (by rfl)])
      refine wp_store_row 75 _ _ rfl _ #[.int .i64 (f : Int), .int .i64 (t : Int)] rfl rfl 75 _ hk7 (by kernel_rfl) rfl (by simp [Value.oneCell']) ?_
      replace hk6 := (setRow_other _ _ _ #[.int .i64 (f : Int), .int .i64 (t : Int)] hne).trans hk6
      replace hk7 := Blk.setRow hk7 #[.int .i64 (f : Int), .int .i64 (t : Int)]
      replace hbX := below_setRow hbX hg7 #[.int .i64 (f : Int), .int .i64 (t : Int)]
      try simp only [Act.put]
      try dsimp only
      refine hK.out _ _ (H2.out _ hbX) (fun hHeld => ?_)
      clear hK K
      try simp only [Act.put, List.setIfInBounds_toArray, List.set_cons_zero, List.set_cons_succ]
      refine wpAnyH_done (by kernel_rfl) ?_ _
      go_wp2_with fail
      go_meet
      exact ⟨_, _, rfl, rfl, hne, hk6, hk7, hg6, hg7, hbX⟩
    · (try rw [if_pos (by rfl)])
      go_simp
      first | refine alloc_gen ?_ | refine alloc_genD ?_
      intro Wa hka hba
      have hk7 := hka
      (try have hne := Nat.ne_of_lt (Blk.lt hk6))
      (try replace hk6 := Blk.below hk6 hba (Blk.lt hk6))
      have hg7 := hbX.size
      replace hbX : Below W0.heap.size W0 Wa := by first | exact hbX.trans (hba.mono hbX.size) | exact hba
      try dsimp only
      refine hK.out _ _ (H2.out _ hbX) (fun hHeld => ?_)
      clear hK K
      try simp only [Act.put, List.setIfInBounds_toArray, List.set_cons_zero, List.set_cons_succ]
      refine wpAnyH_ready (rs := [2]) (by kernel_rfl) (by simp) ?_
      refine (AllReadyH.cons (o := ⟨some 6, _, _, _, _, _⟩) rfl (fun K hK => ?_) AllReadyH.nil)
      (try rw [if_pos (by rfl)])
      go_simp
      first | refine alloc_gen ?_ | refine alloc_genD ?_
      intro Wa hka hba
      have hk6 := hka
      (try have hne := Nat.ne_of_gt (Blk.lt hk7))
      (try replace hk7 := Blk.below hk7 hba (Blk.lt hk7))
      have hg6 := hbX.size
      replace hbX : Below W0.heap.size W0 Wa := by first | exact hbX.trans (hba.mono hbX.size) | exact hba
      try dsimp only
      refine hK.out _ _ (H2.out _ hbX) (fun hHeld => ?_)
      clear hK K
      try simp only [Act.put, List.setIfInBounds_toArray, List.set_cons_zero, List.set_cons_succ]
      refine wpAnyH_ready (rs := [4]) (by kernel_rfl) (by simp) ?_
      refine (AllReadyH.cons (o := ⟨none, _, _, _, _, _⟩) rfl (fun K hK => ?_) AllReadyH.nil)
      (try rw [if_pos (by rfl)])
      refine wp_store_row 75 _ _ rfl _ #[.int .i64 (f : Int), .int .i64 (t : Int)] rfl rfl 75 _ hk6 (by kernel_rfl) rfl (by simp [Value.oneCell']) ?_
      replace hk7 := (setRow_other _ _ _ #[.int .i64 (f : Int), .int .i64 (t : Int)] (Ne.symm hne)).trans hk7
      replace hk6 := Blk.setRow hk6 #[.int .i64 (f : Int), .int .i64 (t : Int)]
      replace hbX := below_setRow hbX hg6 #[.int .i64 (f : Int), .int .i64 (t : Int)]
      try simp only [Act.put]
      try dsimp only
      refine hK.out _ _ (H2.out _ hbX) (fun hHeld => ?_)
      clear hK K
      try simp only [Act.put, List.setIfInBounds_toArray, List.set_cons_zero, List.set_cons_succ]
      refine wpAnyH_ready (rs := [5]) (by kernel_rfl) (by simp) ?_
      refine (AllReadyH.cons (o := ⟨none, _, _, _, _, _⟩) rfl (fun K hK => ?_) AllReadyH.nil)
      (try rw [if_pos (by rfl)])
      refine wp_store_row 75 _ _ rfl _ #[.int .i64 (f : Int), .int .i64 (t : Int)] rfl rfl 75 _ hk7 (by kernel_rfl) rfl (by simp [Value.oneCell']) ?_
      replace hk6 := (setRow_other _ _ _ #[.int .i64 (f : Int), .int .i64 (t : Int)] hne).trans hk6
      replace hk7 := Blk.setRow hk7 #[.int .i64 (f : Int), .int .i64 (t : Int)]
      replace hbX := below_setRow hbX hg7 #[.int .i64 (f : Int), .int .i64 (t : Int)]
      try simp only [Act.put]
      try dsimp only
      refine hK.out _ _ (H2.out _ hbX) (fun hHeld => ?_)
      clear hK K
      try simp only [Act.put, List.setIfInBounds_toArray, List.set_cons_zero, List.set_cons_succ]
      refine wpAnyH_done (by kernel_rfl) ?_ _
      go_wp2_with fail
      go_meet
      exact ⟨_, _, rfl, rfl, hne, hk6, hk7, hg6, hg7, hbX⟩
  case rest =>
    clear hbX
    obtain ⟨b6, b7, rfl, rfl, hne, hk6, hk7, hg6, hg7, hbX⟩ := hcut
    have k61 : wc.drew.cell? ⟨b6, 1, none⟩ = some (.int .i64 (t : Int)) := hk6.cell 1
    have f61 : wc.drew.frozen? ⟨b6, 1, none⟩ = false := hk6.frozen 1
    have hk0 : (f : Int) + (k : Int) ≤ 1099511627776 := by omega
    have hk1 : 0 ≤ (f : Int) + (k : Int) := by omega
    have hwr1 : IntKind.i64.wrap ((f : Int) + (k : Int)) = (f : Int) + (k : Int) := by rw [IntKind.wrap_i64]; omega
    have hwr2 : IntKind.i64.wrap ((t : Int) - (f : Int)) = (t : Int) - (f : Int) := by rw [IntKind.wrap_i64]; omega
    go_upto_region 2 with fail
    refine wp_region_held_drew (S := fun W' => W'.cell? ⟨w.heap.size, 0, none⟩ = some (.int .i64 (f : Int)) ∧ W'.cell? ⟨w.heap.size, 1, none⟩ = some (.int .i64 (t : Int))) (by kernel_rfl) ?_ (fun hHeld => ?_)
    · exact ⟨(H2.out _ hbX).cell 0, (H2.out _ hbX).cell 1⟩
    refine wpAnyH_take (i := 0) (oi := ⟨some 10, _, _, _, _, _⟩) (v := ?_) rfl (by kernel_rfl) (by kernel_rfl) (by kernel_rfl) (fun _ _ _ h => h) (Or.inl ⟨by rfl, ?_⟩) (by assumption) ?_
    rotate_left
    · intro w hSw; (try dsimp only at hSw); go_simp; try (with_reducible rfl)
    rotate_left 0
    try simp only [Act.put, List.setIfInBounds_toArray, List.set_cons_zero, List.set_cons_succ]
    refine wpAnyH_take (i := 1) (oi := ⟨some 11, _, _, _, _, _⟩) (v := ?_) rfl (by kernel_rfl) (by kernel_rfl) (by kernel_rfl) (fun _ _ _ h => h) (Or.inl ⟨by rfl, ?_⟩) (by assumption) ?_
    rotate_left
    · intro w hSw; (try dsimp only at hSw); obtain ⟨hc0, hc1⟩ := hSw; go_simp; try (with_reducible rfl)
    rotate_left 0
    try simp only [Act.put, List.setIfInBounds_toArray, List.set_cons_zero, List.set_cons_succ]
    refine wpAnyH_take (i := 2) (oi := ⟨some 12, _, _, _, _, _⟩) (v := ?_) rfl (by kernel_rfl) (by kernel_rfl) (by kernel_rfl) (fun _ _ _ h => h) (Or.inl ⟨by rfl, ?_⟩) (by assumption) ?_
    rotate_left
    · intro w hSw; (try dsimp only at hSw); go_simp; try (with_reducible rfl)
    rotate_left 0
    try simp only [Act.put, List.setIfInBounds_toArray, List.set_cons_zero, List.set_cons_succ]
    refine wpAnyH_take (i := 3) (oi := ⟨some 13, _, _, _, _, _⟩) (v := ?_) rfl (by kernel_rfl) (by kernel_rfl) (by kernel_rfl) (fun _ _ _ h => h) (Or.inl ⟨by rfl, ?_⟩) (by assumption) ?_
    rotate_left
    · intro w hSw; (try dsimp only at hSw); obtain ⟨hc0, hc1⟩ := hSw; go_simp; try (with_reducible rfl)
    rotate_left 0
    try simp only [Act.put, List.setIfInBounds_toArray, List.set_cons_zero, List.set_cons_succ]
    refine wpAnyH_take (i := 4) (oi := ⟨some 14, _, _, _, _, _⟩) (v := ?_) rfl (by kernel_rfl) (by kernel_rfl) (by kernel_rfl) (fun _ _ _ h => h) (Or.inl ⟨by rfl, ?_⟩) (by assumption) ?_
    rotate_left
    · intro w hSw; (try dsimp only at hSw); go_simp; try (with_reducible rfl)
    rotate_left 0
    try simp only [Act.put, List.setIfInBounds_toArray, List.set_cons_zero, List.set_cons_succ]
    refine wpAnyH_take (i := 5) (oi := ⟨some 15, _, _, _, _, _⟩) (v := ?_) rfl (by kernel_rfl) (by kernel_rfl) (by kernel_rfl) (fun _ _ _ h => h) (Or.inl ⟨by rfl, ?_⟩) (by assumption) ?_
    rotate_left
    · intro w hSw; (try dsimp only at hSw); obtain ⟨hc0, hc1⟩ := hSw; go_simp; try (with_reducible rfl)
    rotate_left 0
    try simp only [Act.put, List.setIfInBounds_toArray, List.set_cons_zero, List.set_cons_succ]
    refine wpAnyH_take (i := 6) (oi := ⟨some 16, _, _, _, _, _⟩) (v := ?_) rfl (by kernel_rfl) (by kernel_rfl) (by kernel_rfl) (fun _ _ _ h => h) (Or.inl ⟨by rfl, ?_⟩) (by assumption) ?_
    rotate_left
    · intro w hSw; (try dsimp only at hSw); go_simp; try (with_reducible rfl)
    rotate_left 0
    try simp only [Act.put, List.setIfInBounds_toArray, List.set_cons_zero, List.set_cons_succ]
    refine wpAnyH_ready (rs := [7]) (by kernel_rfl) (by simp) ?_
    refine (AllReadyH.cons (o := ⟨some 17, _, _, _, _, _⟩) rfl (fun K hK => ?_) AllReadyH.nil)
    (try rw [if_pos (by rfl)])
    go_simp
    refine (HBL.out _).mono ?_
    rintro e Wn ⟨rfl, rfl⟩
    try dsimp only
    refine hK.out _ _ (⟨(H2.out _ hbX).cell 0, (H2.out _ hbX).cell 1⟩) (fun hHeld => ?_)
    clear hK K
    try simp only [Act.put, List.setIfInBounds_toArray, List.set_cons_zero, List.set_cons_succ]
    refine wpAnyH_take (i := 8) (oi := ⟨some 18, _, _, _, _, _⟩) (v := ?_) rfl (by kernel_rfl) (by kernel_rfl) (by kernel_rfl) (fun _ _ _ h => h) (Or.inl ⟨by rfl, ?_⟩) (by assumption) ?_
    rotate_left
    · intro w hSw; (try dsimp only at hSw); go_simp; try (with_reducible rfl)
    rotate_left 0
    try simp only [Act.put, List.setIfInBounds_toArray, List.set_cons_zero, List.set_cons_succ]
    refine wpAnyH_take (i := 9) (oi := ⟨some 19, _, _, _, _, _⟩) (v := ?_) rfl (by kernel_rfl) (by kernel_rfl) (by kernel_rfl) (fun _ _ _ h => h) (Or.inl ⟨by rfl, ?_⟩) (by assumption) ?_
    rotate_left
    · intro w hSw; (try dsimp only at hSw); go_simp; try (with_reducible rfl)
    rotate_left 0
    try simp only [Act.put, List.setIfInBounds_toArray, List.set_cons_zero, List.set_cons_succ]
    refine wpAnyH_ready (rs := [10]) (by kernel_rfl) (by simp) ?_
    refine (AllReadyH.cons (o := ⟨none, _, _, _, _, _⟩) rfl (fun K hK => ?_) AllReadyH.nil)
    (try rw [if_pos (by rfl)])
    go_simp
    first | refine set_gen ?_ | refine set_genD ?_
    intro Wb hbo hbs hbz hbb
    have HK6 := Lib.hid (show Blk Wb b6 75 (#[.int .i64 (f : Int), .int .i64 (t : Int)].setIfInBounds 1 (.int .i64 ((f : Int) + (k : Int)))) from hbs _ _ hk6 rfl)
    have HK7 := Lib.hid (hbo _ _ _ hk7 (Ne.symm hne))
    have hbX : Below W0.heap.size W0 Wb := by first | exact hbX.trans (hbb _ hg6) | exact hbX.drew.trans (hbb _ hg6)
    try dsimp only
    refine hK.out _ _ (⟨(H2.out _ hbX).cell 0, (H2.out _ hbX).cell 1⟩) (fun hHeld => ?_)
    clear hK K
    try simp only [Act.put, List.setIfInBounds_toArray, List.set_cons_zero, List.set_cons_succ]
    refine wpAnyH_done (by kernel_rfl) ?_ _
    have k60 := (HK6.out.same (cs' := #[.int .i64 (f : Int), .int .i64 ((f : Int) + (k : Int))]) rfl)
    have k61 := k60.cell 1
    have k70 := HK7.out.cell 0
    have f70 := HK7.out.frozen 0
    replace HK6 := Lib.hid k60
    clear k60
    by_cases hlt : a < f + k
    · skip
      have d : decide ((a : Int) < (f : Int) + (k : Int)) = true := decide_eq_true (by omega)
      have HLT := Lib.hid hlt
      clear hlt
      go_upto_region 5 with fail
      obtain ⟨Wc, hWc⟩ : ∃ Wc, Wb.setCell ⟨b7, 0, none⟩ (.int .i64 ((f : Int) + (k : Int))) = Wc := ⟨_, rfl⟩
      try rw [hWc]
      have hs6 : Blk Wc b6 75 #[.int .i64 (f : Int), .int .i64 ((f : Int) + (k : Int))] := by rw [← hWc]; exact HK6.out.far (by dsimp only; omega) _
      have hs7 : Blk Wc b7 75 #[.int .i64 ((f : Int) + (k : Int)), .int .i64 (t : Int)] := by rw [← hWc]; exact (HK7.out.store 0 _).same rfl
      have hbX2 : Below W0.heap.size W0 Wc := by rw [← hWc]; exact hbX.setCell hg7 _
      replace hs6 : Blk Wc.drew b6 75 #[.int .i64 (f : Int), .int .i64 ((f : Int) + (k : Int))] := hs6
      replace hs7 : Blk Wc.drew b7 75 #[.int .i64 ((f : Int) + (k : Int)), .int .i64 (t : Int)] := hs7
      have hk4 : Blk Wc.drew (w.heap.size + 1) 75 _ := H4.out _ hbX2.drew
      have hk5 : Blk Wc.drew (w.heap.size + 1 + 1) 75 _ := H5.out _ hbX2.drew
      have hbW : Below w.heap.size w Wc.drew := (HB0.out.trans (hbX2.mono HB0.out.size)).drew
      have hz := HZ0.out
      clear hWc
      refine wp_region_held_drew (S := fun W' => Blk W' b6 75 #[.int .i64 (f : Int), .int .i64 ((f : Int) + (k : Int))] ∧ Blk W' b7 75 #[.int .i64 ((f : Int) + (k : Int)), .int .i64 (t : Int)]) (by kernel_rfl) ?_ (fun hHeld => ?_)
      · exact ⟨hs6, hs7⟩
      refine wpAnyH_take (i := 0) (oi := ⟨some 27, _, _, _, _, _⟩) (v := (.agg #[.int .i64 (f : Int), .int .i64 ((f : Int) + (k : Int))])) rfl (by kernel_rfl) (by kernel_rfl) (by kernel_rfl) (fun _ _ _ h => h) (yieldsIf_load_blk (by rfl) 75 _ rfl b6 rfl 75 _ _ (fun _ hS => hS.1) Tryd.underlying75 rfl (by kernel_rfl)) (by assumption) ?_
      try simp only [Act.put, List.setIfInBounds_toArray, List.set_cons_zero, List.set_cons_succ]
      refine wpAnyH_take (i := 1) (oi := ⟨some 28, _, _, _, _, _⟩) (v := (.agg #[.int .i64 ((f : Int) + (k : Int)), .int .i64 (t : Int)])) rfl (by kernel_rfl) (by kernel_rfl) (by kernel_rfl) (fun _ _ _ h => h) (yieldsIf_load_blk (by rfl) 75 _ rfl b7 rfl 75 _ _ (fun _ hS => hS.2) Tryd.underlying75 rfl (by kernel_rfl)) (by assumption) ?_
      try simp only [Act.put, List.setIfInBounds_toArray, List.set_cons_zero, List.set_cons_succ]
      refine wpAnyH_ready (rs := [2]) (by kernel_rfl) (by simp) ?_
      refine (AllReadyH.cons (o := ⟨none, _, _, _, _, _⟩) rfl (fun K hK => ?_) AllReadyH.nil)
      (try rw [if_pos (by rfl)])
      refine wp_store_row 75 _ _ rfl (w.heap.size + 1) #[.int .i64 (f : Int), .int .i64 ((f : Int) + (k : Int))] rfl rfl 75 _ hk4 (by kernel_rfl) rfl (by simp [Value.oneCell']) ?_
      replace hs6 := hs6.setRow_far (g' := (w.heap.size + 1)) (by omega) #[.int .i64 (f : Int), .int .i64 ((f : Int) + (k : Int))]
      replace hs7 := hs7.setRow_far (g' := (w.heap.size + 1)) (by omega) #[.int .i64 (f : Int), .int .i64 ((f : Int) + (k : Int))]
      replace hk5 := Blk.setRow_far hk5 (g' := (w.heap.size + 1)) (by omega) #[.int .i64 (f : Int), .int .i64 ((f : Int) + (k : Int))]
      replace hk4 := Blk.setRow hk4 #[.int .i64 (f : Int), .int .i64 ((f : Int) + (k : Int))]
      replace hbW := below_setRow hbW (g := (w.heap.size + 1)) (by omega) #[.int .i64 (f : Int), .int .i64 ((f : Int) + (k : Int))]
      try simp only [Act.put]
      try dsimp only
      refine hK.out _ _ (⟨hs6, hs7⟩) (fun hHeld => ?_)
      clear hK K
      try simp only [Act.put, List.setIfInBounds_toArray, List.set_cons_zero, List.set_cons_succ]
      refine wpAnyH_ready (rs := [3]) (by kernel_rfl) (by simp) ?_
      refine (AllReadyH.cons (o := ⟨none, _, _, _, _, _⟩) rfl (fun K hK => ?_) AllReadyH.nil)
      (try rw [if_pos (by rfl)])
      refine wp_store_row 75 _ _ rfl (w.heap.size + 1 + 1) #[.int .i64 ((f : Int) + (k : Int)), .int .i64 (t : Int)] rfl rfl 75 _ hk5 (by kernel_rfl) rfl (by simp [Value.oneCell']) ?_
      replace hs6 := hs6.setRow_far (g' := (w.heap.size + 1 + 1)) (by omega) #[.int .i64 ((f : Int) + (k : Int)), .int .i64 (t : Int)]
      replace hs7 := hs7.setRow_far (g' := (w.heap.size + 1 + 1)) (by omega) #[.int .i64 ((f : Int) + (k : Int)), .int .i64 (t : Int)]
      replace hk4 := Blk.setRow_far hk4 (g' := (w.heap.size + 1 + 1)) (by omega) #[.int .i64 ((f : Int) + (k : Int)), .int .i64 (t : Int)]
      replace hk5 := Blk.setRow hk5 #[.int .i64 ((f : Int) + (k : Int)), .int .i64 (t : Int)]
      replace hbW := below_setRow hbW (g := (w.heap.size + 1 + 1)) (by omega) #[.int .i64 ((f : Int) + (k : Int)), .int .i64 (t : Int)]
      try simp only [Act.put]
      try dsimp only
      refine hK.out _ _ (⟨hs6, hs7⟩) (fun hHeld => ?_)
      clear hK K
      try simp only [Act.put, List.setIfInBounds_toArray, List.set_cons_zero, List.set_cons_succ]
      refine wpAnyH_done (by kernel_rfl) ?_ _
      go_wp2_with fail
      refine bodyPost_ret (results_rows2 rfl _ _ (w.heap.size + 1) (w.heap.size + 1 + 1) 75 _ _ _ rfl rfl hk4 hk5 Tryd.underlying75 rfl (by kernel_rfl) (by kernel_rfl)) rfl ?_
      refine ⟨?_, hbW⟩
      rw [HIN.out, HBS.out, if_pos HLT.out, if_pos HLT.out]
      simp [ptv, ptc]
    · skip
      have d : decide ((a : Int) < (f : Int) + (k : Int)) = false := decide_eq_false (by omega)
      have HLT := Lib.hid hlt
      clear hlt
      go_upto_region 6 with fail
      obtain ⟨Wc, hWc⟩ : ∃ Wc, Wb.setCell ⟨b7, 0, none⟩ (.int .i64 ((f : Int) + (k : Int))) = Wc := ⟨_, rfl⟩
      try rw [hWc]
      have hs6 : Blk Wc b6 75 #[.int .i64 (f : Int), .int .i64 ((f : Int) + (k : Int))] := by rw [← hWc]; exact HK6.out.far (by dsimp only; omega) _
      have hs7 : Blk Wc b7 75 #[.int .i64 ((f : Int) + (k : Int)), .int .i64 (t : Int)] := by rw [← hWc]; exact (HK7.out.store 0 _).same rfl
      have hbX2 : Below W0.heap.size W0 Wc := by rw [← hWc]; exact hbX.setCell hg7 _
      replace hs6 : Blk Wc.drew b6 75 #[.int .i64 (f : Int), .int .i64 ((f : Int) + (k : Int))] := hs6
      replace hs7 : Blk Wc.drew b7 75 #[.int .i64 ((f : Int) + (k : Int)), .int .i64 (t : Int)] := hs7
      have hk4 : Blk Wc.drew (w.heap.size + 1) 75 _ := H4.out _ hbX2.drew
      have hk5 : Blk Wc.drew (w.heap.size + 1 + 1) 75 _ := H5.out _ hbX2.drew
      have hbW : Below w.heap.size w Wc.drew := (HB0.out.trans (hbX2.mono HB0.out.size)).drew
      have hz := HZ0.out
      clear hWc
      refine wp_region_held_drew (S := fun W' => Blk W' b6 75 #[.int .i64 (f : Int), .int .i64 ((f : Int) + (k : Int))] ∧ Blk W' b7 75 #[.int .i64 ((f : Int) + (k : Int)), .int .i64 (t : Int)]) (by kernel_rfl) ?_ (fun hHeld => ?_)
      · exact ⟨hs6, hs7⟩
      refine wpAnyH_take (i := 0) (oi := ⟨some 29, _, _, _, _, _⟩) (v := (.agg #[.int .i64 ((f : Int) + (k : Int)), .int .i64 (t : Int)])) rfl (by kernel_rfl) (by kernel_rfl) (by kernel_rfl) (fun _ _ _ h => h) (yieldsIf_load_blk (by rfl) 75 _ rfl b7 rfl 75 _ _ (fun _ hS => hS.2) Tryd.underlying75 rfl (by kernel_rfl)) (by assumption) ?_
      try simp only [Act.put, List.setIfInBounds_toArray, List.set_cons_zero, List.set_cons_succ]
      refine wpAnyH_take (i := 1) (oi := ⟨some 30, _, _, _, _, _⟩) (v := (.agg #[.int .i64 (f : Int), .int .i64 ((f : Int) + (k : Int))])) rfl (by kernel_rfl) (by kernel_rfl) (by kernel_rfl) (fun _ _ _ h => h) (yieldsIf_load_blk (by rfl) 75 _ rfl b6 rfl 75 _ _ (fun _ hS => hS.1) Tryd.underlying75 rfl (by kernel_rfl)) (by assumption) ?_
      try simp only [Act.put, List.setIfInBounds_toArray, List.set_cons_zero, List.set_cons_succ]
      refine wpAnyH_ready (rs := [2]) (by kernel_rfl) (by simp) ?_
      refine (AllReadyH.cons (o := ⟨none, _, _, _, _, _⟩) rfl (fun K hK => ?_) AllReadyH.nil)
      (try rw [if_pos (by rfl)])
      refine wp_store_row 75 _ _ rfl (w.heap.size + 1) #[.int .i64 ((f : Int) + (k : Int)), .int .i64 (t : Int)] rfl rfl 75 _ hk4 (by kernel_rfl) rfl (by simp [Value.oneCell']) ?_
      replace hs6 := hs6.setRow_far (g' := (w.heap.size + 1)) (by omega) #[.int .i64 ((f : Int) + (k : Int)), .int .i64 (t : Int)]
      replace hs7 := hs7.setRow_far (g' := (w.heap.size + 1)) (by omega) #[.int .i64 ((f : Int) + (k : Int)), .int .i64 (t : Int)]
      replace hk5 := Blk.setRow_far hk5 (g' := (w.heap.size + 1)) (by omega) #[.int .i64 ((f : Int) + (k : Int)), .int .i64 (t : Int)]
      replace hk4 := Blk.setRow hk4 #[.int .i64 ((f : Int) + (k : Int)), .int .i64 (t : Int)]
      replace hbW := below_setRow hbW (g := (w.heap.size + 1)) (by omega) #[.int .i64 ((f : Int) + (k : Int)), .int .i64 (t : Int)]
      try simp only [Act.put]
      try dsimp only
      refine hK.out _ _ (⟨hs6, hs7⟩) (fun hHeld => ?_)
      clear hK K
      try simp only [Act.put, List.setIfInBounds_toArray, List.set_cons_zero, List.set_cons_succ]
      refine wpAnyH_ready (rs := [3]) (by kernel_rfl) (by simp) ?_
      refine (AllReadyH.cons (o := ⟨none, _, _, _, _, _⟩) rfl (fun K hK => ?_) AllReadyH.nil)
      (try rw [if_pos (by rfl)])
      refine wp_store_row 75 _ _ rfl (w.heap.size + 1 + 1) #[.int .i64 (f : Int), .int .i64 ((f : Int) + (k : Int))] rfl rfl 75 _ hk5 (by kernel_rfl) rfl (by simp [Value.oneCell']) ?_
      replace hs6 := hs6.setRow_far (g' := (w.heap.size + 1 + 1)) (by omega) #[.int .i64 (f : Int), .int .i64 ((f : Int) + (k : Int))]
      replace hs7 := hs7.setRow_far (g' := (w.heap.size + 1 + 1)) (by omega) #[.int .i64 (f : Int), .int .i64 ((f : Int) + (k : Int))]
      replace hk4 := Blk.setRow_far hk4 (g' := (w.heap.size + 1 + 1)) (by omega) #[.int .i64 (f : Int), .int .i64 ((f : Int) + (k : Int))]
      replace hk5 := Blk.setRow hk5 #[.int .i64 (f : Int), .int .i64 ((f : Int) + (k : Int))]
      replace hbW := below_setRow hbW (g := (w.heap.size + 1 + 1)) (by omega) #[.int .i64 (f : Int), .int .i64 ((f : Int) + (k : Int))]
      try simp only [Act.put]
      try dsimp only
      refine hK.out _ _ (⟨hs6, hs7⟩) (fun hHeld => ?_)
      clear hK K
      try simp only [Act.put, List.setIfInBounds_toArray, List.set_cons_zero, List.set_cons_succ]
      refine wpAnyH_done (by kernel_rfl) ?_ _
      go_wp2_with fail
      refine bodyPost_ret (results_rows2 rfl _ _ (w.heap.size + 1) (w.heap.size + 1 + 1) 75 _ _ _ rfl rfl hk4 hk5 Tryd.underlying75 rfl (by kernel_rfl) (by kernel_rfl)) rfl ?_
      refine ⟨?_, hbW⟩
      rw [HIN.out, HBS.out, if_neg HLT.out, if_neg HLT.out]
      simp [ptv, ptc]
end Go.Proofs.YtphknicdllcbmaaDoor
