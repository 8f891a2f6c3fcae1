/-
  Audit: the iterator over the pairs of so many. No condition.
  Audit: the iterator over where lists part. No condition.
  Audit: Parts as a call; the guard. In whatever memory. No condition.
  Audit: the guard: two lists that part are told. In whatever memory. No condition.
-/
import Derived.Test.YtjdgcciemlfapaaQAu
import Derived.Test.YtjdgcciemlfapaaRound
import Derived.Shelf.RegionOpen
import Derived.TacticsInMore
import Derived.LoopNIn
import Derived.LoopIn
import Derived.Scope
import Derived.Lib.SmallJoins
namespace Go.Proofs.Ytjdgcciemlfapaa
open Go Go.RowKit Go.Maps
attribute [local go_sem] Oper.semAt_some

/-- Marks of loops that are over. -/
def Marks (B : Nat) : List Deferred → World → Prop
  | [], _ => True
  | d :: ds, w => ∃ D, d = { target := .collected D, args := #[] } ∧ B ≤ D ∧ w.heap[D]? = some (.deferred (some [])) ∧ (∀ e ∈ ds, e.target ≠ .collected D) ∧ Marks B ds w
theorem Marks.keep {B : Nat} : ∀ {ds : List Deferred} {w w' : World}, Marks B ds w → (∀ D, B ≤ D → D < w.heap.size → w.heap[D]? = some (.deferred (some [])) → (∃ e ∈ ds, e.target = .collected D) → w'.heap[D]? = some (.deferred (some []))) → Marks B ds w'
  | [], _, _, _, _ => trivial
  | d :: ds, w, w', ⟨D, h1, h2, h3, h4, h5⟩, hk => ⟨D, h1, h2, hk D h2 (Array.getElem?_eq_some_iff.1 h3).1 h3 ⟨d, by simp, by rw [h1]⟩, h4, h5.keep fun D' a b c ⟨e, he, hc⟩ => hk D' a b c ⟨e, List.mem_cons_of_mem _ he, hc⟩⟩
theorem leaves_marks {F : Fence} {n : Nat} {P : Program} {fn : Func} {tmps : Array Value} {R : Ending → World → Prop} {u : FrameMode} (hu : u ≠ .run) {B : Nat} : ∀ (ds : List Deferred) (w : World), Marks B ds w → (∀ w', Below B w w' → LeavesIn F n P fn tmps R [] u w') → LeavesInM F n P fn tmps R ds u w
  | [], w, _, h => h w (Below.refl _ _)
  | d :: ds, w, ⟨D, h1, h2, h3, h4, h5⟩, h => by
    subst h1
    refine ⟨hu, .inl ⟨D, _, rfl, run_takeDeferred h3, ?_⟩⟩
    refine leaves_marks hu ds _ (h5.keep fun D' _ _ hd ⟨e, he, hc⟩ => (World.putObj_heap_other (fun e' => h4 e he (by rw [hc, e']))).trans hd) fun w' hb => ?_
    exact h w' ((below_putObj (Below.refl _ _) _ h2).trans hb)
theorem Blk.putObj {W : World} {g l : Nat} {t : TypeId} {cs : Array Value} {o : Obj} (h : Blk W g t cs) (o' : Obj) (hl : W.heap[l]? = some o) (ho : o.isCells = false) : Blk (W.putObj l o') g t cs := by
  refine (World.putObj_heap_other (fun e => ?_)).trans h
  subst e
  unfold Blk at h
  rw [h] at hl
  cases hl
  cases ho
def encP (p : Nat × Nat) : Array Value := #[.int .i64 (p.1 : Int), .int .i64 (p.2 : Int)]
set_option maxRecDepth 100000 in
set_option maxHeartbeats 4000000 in
theorem pairs_any (n : Int) (W : World) :
    Calls Try.prog 45 #[.int .i64 n] W fun e w' => e = .returned (.func (.func 55) #[] #[.pointer (some ⟨W.heap.size, 0, none⟩)]) ∧ Blk w' W.heap.size 3 #[.int .i64 n] ∧ Below W.heap.size W w' := by
  go_enter Try.func45, Try.ntmps45
  go_wp2_with fail
  go_ret
  exact ⟨rfl, Blk.newAt _ _ rfl rfl, (Below.refl _ W).alloc (Nat.le_refl _) _⟩
set_option maxRecDepth 100000 in
set_option maxHeartbeats 4000000 in
theorem pairs_seq (b n : Nat) (own : Nat → Prop) (w : World) (hn : n ≤ 1000) :
    SeqD Try.prog 55 #[.pointer (some ⟨b, 0, none⟩)] encP own (fun W => Blk W b 3 #[.int .i64 (n : Int)]) (pairsL n) w := by
  intro y J Jx W hW hJ hJx hInv hY h0
  have hI0 := hInv _ _ h0
  have cb0 : W.cell? ⟨b, 0, none⟩ = some (.int .i64 (n : Int)) := by rw [hI0.cell]; rfl
  have H0 := Lib.hid h0
  have HINV := Lib.hid hInv
  have HY := Lib.hid hY
  clear hW hJ hJx hY h0 hInv hI0
  refine callsIn_of_wp Try.func55 rfl trivial ?_ rfl
  simp only [Try.ntmps55, List.size_toArray, List.length_cons, List.length_nil, Nat.reduceAdd, Nat.reduceSub, Array.replicate_succ, Array.replicate_zero, List.push_toArray, List.append_toArray, List.nil_append, List.cons_append]
  gi_wp2
  gi_loopw [6] (fun i wr => ∃ a : Nat, a ≤ n ∧ i = .int .i64 (a : Int) ∧ J (rowsTo n a) wr ∧ W.heap.size ≤ wr.heap.size) (fun i _ => n - (intOf i).toNat)
  case atStart => exact ⟨0, Nat.zero_le _, rfl, H0.out, Nat.le_refl _⟩
  case round =>
    obtain ⟨a, ha, rfl, hJa, hsz⟩ := hrel
    by_cases han : a < n
    · have hai : (a : Int) < (n : Int) := by omega
      have HJA := Lib.hid (And.intro hJa hsz)
      obtain ⟨wa, hwa⟩ : ∃ z, z = wr := ⟨_, rfl⟩
      subst hwa
      clear hJa hsz cb0 H0
      gi_wp2
      gi_loopw [4] (fun i wr => ∃ c : Nat, a + 1 ≤ c ∧ c ≤ n ∧ i = .int .i64 (c : Int) ∧ J (rowsTo n a ++ rowTo a (c - (a + 1))) wr ∧ W.heap.size ≤ wr.heap.size) (fun i _ => n - (intOf i).toNat)
      case atStart => exact ⟨a + 1, Nat.le_refl _, by omega, by go_num, by rw [Nat.sub_self, rowTo_zero, List.append_nil]; exact HJA.out.1, HJA.out.2⟩
      case round =>
        clear HJA
        obtain ⟨c, hc1, hc2, rfl, hJc, hsz⟩ := hrel
        have cb1 : wr.cell? ⟨b, 0, none⟩ = some (.int .i64 (n : Int)) := by rw [(HINV.out _ _ hJc).cell]; rfl
        by_cases hcn : c < n
        · have hci : (c : Int) < (n : Int) := by omega
          have HPF : Hid ((rowsTo n a ++ rowTo a (c - (a + 1)) ++ [(a, c)]) <+: pairsL n) := Lib.hid (by
            have := pairs_pre (n := n) (a := a) (m := c - (a + 1)) han (by omega)
            rw [show a + 1 + (c - (a + 1)) = c by omega] at this
            exact this)
          have HNX := Lib.hid (rowTo_next hc1)
          have HSZ := Lib.hid hsz
          obtain ⟨fn, tm, assign, bd, hy, hR1⟩ := HY.out _ (a, c) wr HPF.out hJc
          dsimp only [encP] at hy
          clear hJc hsz
          gi_wp2_with (first
            | (refine ⟨rfl, ?_⟩; refine hR1.mono ?_; clear hR1; rintro e W' (⟨rfl, hJ3, hk3, _⟩ | ⟨rfl, hJx3, _⟩)))
          · refine ⟨⟨c + 1, by omega, by omega, by rfl, ?_, Nat.le_trans HSZ.out hk3.size⟩, ?_⟩
            · rw [HNX.out, ← List.append_assoc]
              exact hJ3
            · simp only [intOf]
              omega
          · refine bodyPost_ret (results_none rfl _ _ _) rfl ?_
            exact ⟨⟨_, rfl⟩, .inr ⟨_, HPF.out, by simp, hJx3⟩⟩
        · obtain rfl : c = n := by omega
          have HJN : Hid (J (rowsTo c (a + 1)) wr) := Lib.hid (by rw [rowsTo_succ]; exact hJc)
          have HSZ := Lib.hid hsz
          clear hJc hsz
          gi_wp2
          refine ⟨⟨a + 1, by omega, by rfl, HJN.out, HSZ.out⟩, ?_⟩
          simp only [intOf]
          omega
    · obtain rfl : a = n := by omega
      have HJN : Hid (J (pairsL a) wr) := Lib.hid hJa
      clear hJa hsz
      gi_wp2
      go_end0
      exact ⟨⟨_, rfl⟩, .inl HJN.out⟩
end Go.Proofs.Ytjdgcciemlfapaa
namespace Go.Proofs.Ytjdgcciemlfapaa
open Go Go.RowKit Go.Maps
attribute [local go_sem] Oper.semAt_some

def encT (p : Nat × Nat × Nat) : Array Value := #[.agg #[.int .i64 (p.1 : Int), .int .i64 (p.2.1 : Int), .int .i64 (p.2.2 : Int)]]
/-- What the iterator reads. -/
def PartInv (d B g : Nat) (E : List (List Nat)) (W : World) : Prop := Blk W d 97 #[.slice (some ⟨g, 0, none⟩) E.length E.length] ∧ EntAt W B g E
theorem PartInv.same {W W' : World} {d B g : Nat} {E : List (List Nat)} (h : PartInv d B g E W) (hk : ∀ b o, W.heap[b]? = some o → o.isCells = true → (b = d ∨ B ≤ b) → W'.heap[b]? = some o) : PartInv d B g E W' := by
  obtain ⟨h1, h2, f, h3, h4⟩ := h
  refine ⟨hk _ _ h1 rfl (.inl rfl), h2, f, hk _ _ h3 rfl (.inr h2), fun j hj => (h4 j hj).kept fun a x ha hx => ?_⟩
  obtain ⟨o, ho, hc⟩ := cells_of_cell hx
  exact (World.cell?_of_block ((hk _ _ ho hc (.inr ha)).trans ho.symm)).trans hx
theorem PartInv.below {W W' : World} {d B g : Nat} {E : List (List Nat)} (h : PartInv d B g E W) (hb : Below W.heap.size W W') : PartInv d B g E W' :=
  h.same fun b _o ho _ _ => (hb.block b (Array.getElem?_eq_some_iff.1 ho).1).trans ho
set_option maxRecDepth 100000 in
set_option maxHeartbeats 60000000 in
theorem parts_seq (d B g : Nat) (E : List (List Nat)) (own : Nat → Prop) (w : World) (hn : E.length ≤ 8) (hm : ∀ l ∈ E, l.length ≤ 12) (hown : ∀ b, own b → b < w.heap.size) :
    SeqD Try.prog 44 #[.pointer (some ⟨d, 0, none⟩)] encT own (PartInv d B g E) (partsL E) w := by
  intro y J Jx W hW hJ hJx hInv hY h0
  have HOWN : Hid (∀ b, own b → b < W.heap.size) := Lib.hid fun b hb => Nat.lt_of_lt_of_le (hown b hb) hW.size
  have hI0 := hInv _ _ h0
  obtain ⟨n, hnn⟩ : ∃ z, E.length = z := ⟨_, rfl⟩
  have hn8 : n ≤ 8 := by omega
  have HN := Lib.hid hnn
  have HM := Lib.hid hm
  have HJ := Lib.hid hJ
  have HJX := Lib.hid hJx
  have HINV := Lib.hid hInv
  have HY := Lib.hid hY
  have HJ0 := Lib.hid h0
  obtain ⟨WA, hWA⟩ : ∃ z, W.alloc (.cells #[.func (.yield y) #[] #[]] 99) = z := ⟨_, rfl⟩
  have hbA : Below W.heap.size W WA := by rw [← hWA]; exact (Below.refl _ _).alloc (Nat.le_refl _) _
  have k2 : Blk WA W.heap.size 99 #[.func (.yield y) #[] #[]] := by rw [← hWA]; exact Blk.newAt _ _ rfl rfl
  have hszA : WA.heap.size = W.heap.size + 1 := by rw [← hWA]; simp
  have cb1 : WA.cell? ⟨d, 0, none⟩ = some (.slice (some ⟨g, 0, none⟩) n n) := by rw [(hI0.below hbA).1.cell, hnn]; rfl
  have HA := Lib.hid (And.intro hWA (And.intro hbA (And.intro k2 hszA)))
  clear hW hJ hJx hY h0 hInv hown hI0 hnn hm hn hWA hbA k2 hszA
  refine callsIn_of_wp_marks Try.func44 rfl trivial ?_ rfl
  simp only [Try.ntmps44, List.size_toArray, List.length_cons, List.length_nil, Nat.reduceAdd, Nat.reduceSub, Array.replicate_succ, Array.replicate_zero, List.push_toArray, List.append_toArray, List.nil_append, List.cons_append]
  gi_wp2_with fail
  rw [HA.out.1]
  refine wpIn_wide.2 (wp_scope_straight ((wpIn_wide (n := 0)).1 ?_))
  gi_wp2_with fail
  refine wpIn_label ?_
  gi_wp2_with (first
    | (refine ⟨trivial, rfl, ?_⟩; gi_at_call 45; refine (callsIn_wide.2 (pairs_any (n : Int) WA)).mono ?_; rintro e W01 ⟨rfl, kp, hb1⟩; have HP := Lib.hid (And.intro kp hb1); clear kp hb1 cb1))
  refine wpIn_rangeFunc_D (gf := 55) (lb := #[.pointer (some ⟨WA.heap.size, 0, none⟩)]) rfl (enters_of Try.func55 (by kernel_rfl) rfl)
    (pairs_seq WA.heap.size n own W01 (by omega)) (fun _ => rfl)
    (fun pre W' => J (partsOf E pre) W' ∧ Blk W' W.heap.size 99 #[.func (.yield y) #[] #[]] ∧ Blk W' WA.heap.size 3 #[.int .i64 (n : Int)] ∧ W01.heap.size ≤ W'.heap.size)
    (fun c _ W' => c = .ret ∧ ∃ l, l <+: partsL E ∧ l ≠ [] ∧ Jx l W')
    (fun s A' B' hs hb => ?abI) (fun s W' hs => hs.2.2.1) (fun c s A' B' hs hb => ?abX) ?start
    (fun x a' W' => a' = { tmps := #[.func (.yield y) #[] #[], .pointer (some ⟨d, 0, none⟩), .pointer (some ⟨W.heap.size, 0, none⟩), .int .i64 (x.1 : Int), .int .i64 (x.2 : Int), undef, .slice (some ⟨g, 0, none⟩) n n, .int .i64 (n : Int), .func (.func 55) #[] #[.pointer (some ⟨WA.heap.size, 0, none⟩)], .int .i64 (x.1 : Int), .int .i64 (x.2 : Int), undef, undef, undef, undef, undef, undef, undef, undef, undef, undef, undef, undef, undef, undef, undef, undef, undef, undef, undef, undef, undef, undef, undef, undef, undef, undef, undef, undef, undef, undef, undef, undef, undef, undef, undef, undef, undef], defers := [] })
    (fun x a' W' l o o' _ _ _ h3 => h3) ?assign ?body ?done ?stop
  case abI =>
    have hs0 := HP.out.2.size
    have hs1 := HA.out.2.2.2
    have hk := HP.out.1.lt
    exact ⟨HJ.out _ _ _ hs.1 (hb.mono (by omega)), hs.2.1.below hb (by omega), hs.2.2.1.below hb hk, Nat.le_trans hs.2.2.2 hb.size⟩
  case abX =>
    obtain ⟨h1, l, h2, h3, h4⟩ := hs
    have hs0 := HP.out.2.size
    have hs1 := HA.out.2.2.2
    exact ⟨h1, l, h2, h3, HJX.out _ _ _ h4 (hb.mono (by omega))⟩
  case start =>
    have hs1 := HA.out.2.2.2
    exact ⟨HJ.out _ _ _ HJ0.out (HA.out.2.1.trans (HP.out.2.mono (by omega))), HA.out.2.2.1.below HP.out.2 HA.out.2.2.1.lt, HP.out.1, Nat.le_refl _⟩
  case assign =>
    intro l pre x W' K hlt hpre hi hK
    have HI := Lib.hid hi
    clear hi hlt
    simp only [encP]
    gi_wp2
    exact hK _ _ (keepsFrom_of_below (Below.refl _ _)) (Keep.refl _ _) HI.out rfl
  case body =>
    rintro l pre x a' Wb hl hlt hpre hi rfl
    obtain ⟨a, b⟩ := x
    have hx := mem_pairs (hpre.subset (show (a, b) ∈ pre ++ [(a, b)] by simp))
    dsimp only at hx ⊢
    obtain ⟨hab, hbn⟩ := hx
    have hai : (a : Int) < (n : Int) := by omega
    have hbi : (b : Int) < (n : Int) := by omega
    have HI := Lib.hid hi
    obtain ⟨hd, hBg, f, hg, hrows⟩ := HINV.out _ _ hi.1
    rw [HN.out] at hd hg hrows
    obtain ⟨Aa, ca, hfa, hel1⟩ := (hrows a (by omega)).at
    obtain ⟨Ab, cb, hfb, hel2⟩ := (hrows b (by omega)).at
    have hm1 := HM.out _ (getD_mem [] (show a < E.length by rw [HN.out]; omega))
    have hm2 := HM.out _ (getD_mem [] (show b < E.length by rw [HN.out]; omega))
    obtain ⟨l1, hl1⟩ : ∃ z, E.getD a [] = z := ⟨_, rfl⟩
    obtain ⟨l2, hl2⟩ : ∃ z, E.getD b [] = z := ⟨_, rfl⟩
    rw [hl1] at hfa hel1 hm1
    rw [hl2] at hfb hel2 hm2
    have HL12 := Lib.hid (And.intro hl1 hl2)
    obtain ⟨la, hla⟩ : ∃ z, l1.length = z := ⟨_, rfl⟩
    obtain ⟨lb, hlb⟩ : ∃ z, l2.length = z := ⟨_, rfl⟩
    rw [hla] at hfa hm1
    rw [hlb] at hfb hm2
    have HLA := Lib.hid hla
    have HLB := Lib.hid hlb
    have HEL1 := Lib.hid hel1
    have HEL2 := Lib.hid hel2
    have HC1 : Hid (∀ W'', Below Wb.heap.size Wb W'' → W''.cell? ⟨d, 0, none⟩ = some (.slice (some ⟨g, 0, none⟩) n n)) := Lib.hid fun W'' hb => by rw [(hd.below hb hd.lt).cell]; rfl
    have HR1 : Hid (∀ W'', Below Wb.heap.size Wb W'' → W''.cell? ⟨g, a, none⟩ = some (.slice Aa la ca)) := Lib.hid fun W'' hb => by rw [(hg.below hb hg.lt).cell, arr_get, if_pos (by omega), hfa]
    have HR2 : Hid (∀ W'', Below Wb.heap.size Wb W'' → W''.cell? ⟨g, b, none⟩ = some (.slice Ab lb cb)) := Lib.hid fun W'' hb => by rw [(hg.below hb hg.lt).cell, arr_get, if_pos (by omega), hfb]
    have HPP := Lib.hid (partsOf_pre E hpre)
    have HLT := Lib.hid hlt
    have hla0 : (0 : Int) ≤ (la : Int) := by omega
    have hlb0 : (0 : Int) ≤ (lb : Int) := by omega
    obtain ⟨mn, hmn⟩ : ∃ z, min la lb = z := ⟨_, rfl⟩
    have hmn1 : (if (lb : Int) < (la : Int) then (lb : Int) else (la : Int)) = (mn : Int) := by split <;> omega
    have hmn2 : min (la : Int) (lb : Int) = (mn : Int) := by omega
    have HMN := Lib.hid hmn
    have hbX : Below Wb.heap.size Wb Wb.drew := (Below.refl _ _).drew
    clear hi hd hg hrows hBg hfa hfb hel1 hel2 hl1 hl2 hla hlb hpre hlt hmn
    gi_wp2
    refine region_round (S := fun W'' => Below Wb.heap.size Wb W'') (by kernel_rfl) (fun ⟨_, _, h⟩ => h) (by kernel_rfl) ?_ (fun hHeld => ?_)
    · exact hbX
    refine wpAnyH_take (i := 0) (oi := ⟨some 11, _, _, _, _, _⟩) (v := (.slice (some ⟨g, 0, none⟩) n n)) rfl (by kernel_rfl) (by kernel_rfl) (by kernel_rfl) (fun _ _ _ h => h) (Or.inl ⟨by rfl, fun W' hS => by have hcv := HC1.out W' hS; go_simp⟩) (by assumption) ?_
    try simp only [Act.put, List.setIfInBounds_toArray, List.set_cons_zero, List.set_cons_succ]
    refine wpAnyH_take (i := 1) (oi := ⟨some 12, _, _, _, _, _⟩) (v := ?_) rfl (by kernel_rfl) (by kernel_rfl) (by kernel_rfl) (fun _ _ _ h => h) (Or.inl ⟨by rfl, ?_⟩) (by assumption) ?_
    rotate_left
    · intro w hSw; (try dsimp only at hSw); go_simp; try (with_reducible rfl)
    rotate_left 0
    try simp only [Act.put, List.setIfInBounds_toArray, List.set_cons_zero, List.set_cons_succ]
    refine wpAnyH_take (i := 2) (oi := ⟨some 13, _, _, _, _, _⟩) (v := ?_) rfl (by kernel_rfl) (by kernel_rfl) (by kernel_rfl) (fun _ _ _ h => h) (Or.inl ⟨by rfl, ?_⟩) (by assumption) ?_
    rotate_left
    · intro w hSw; (try dsimp only at hSw); go_simp; try (with_reducible rfl)
    rotate_left 0
    try simp only [Act.put, List.setIfInBounds_toArray, List.set_cons_zero, List.set_cons_succ]
    refine wpAnyH_take (i := 3) (oi := ⟨some 14, _, _, _, _, _⟩) (v := (.slice Aa la ca)) rfl (by kernel_rfl) (by kernel_rfl) (by kernel_rfl) (fun _ _ _ h => h) (Or.inl ⟨by rfl, fun W' hS => by have hcv := HR1.out W' hS; go_simp⟩) (by assumption) ?_
    try simp only [Act.put, List.setIfInBounds_toArray, List.set_cons_zero, List.set_cons_succ]
    refine wpAnyH_take (i := 4) (oi := ⟨some 15, _, _, _, _, _⟩) (v := ?_) rfl (by kernel_rfl) (by kernel_rfl) (by kernel_rfl) (fun _ _ _ h => h) (Or.inl ⟨by rfl, ?_⟩) (by assumption) ?_
    rotate_left
    · intro w hSw; (try dsimp only at hSw); go_simp; try (with_reducible rfl)
    rotate_left 0
    try simp only [Act.put, List.setIfInBounds_toArray, List.set_cons_zero, List.set_cons_succ]
    refine wpAnyH_take (i := 5) (oi := ⟨some 16, _, _, _, _, _⟩) (v := (.slice (some ⟨g, 0, none⟩) n n)) rfl (by kernel_rfl) (by kernel_rfl) (by kernel_rfl) (fun _ _ _ h => h) (Or.inl ⟨by rfl, fun W' hS => by have hcv := HC1.out W' hS; go_simp⟩) (by assumption) ?_
    try simp only [Act.put, List.setIfInBounds_toArray, List.set_cons_zero, List.set_cons_succ]
    refine wpAnyH_take (i := 6) (oi := ⟨some 17, _, _, _, _, _⟩) (v := ?_) rfl (by kernel_rfl) (by kernel_rfl) (by kernel_rfl) (fun _ _ _ h => h) (Or.inl ⟨by rfl, ?_⟩) (by assumption) ?_
    rotate_left
    · intro w hSw; (try dsimp only at hSw); go_simp; try (with_reducible rfl)
    rotate_left 0
    try simp only [Act.put, List.setIfInBounds_toArray, List.set_cons_zero, List.set_cons_succ]
    refine wpAnyH_take (i := 7) (oi := ⟨some 18, _, _, _, _, _⟩) (v := ?_) rfl (by kernel_rfl) (by kernel_rfl) (by kernel_rfl) (fun _ _ _ h => h) (Or.inl ⟨by rfl, ?_⟩) (by assumption) ?_
    rotate_left
    · intro w hSw; (try dsimp only at hSw); go_simp; try (with_reducible rfl)
    rotate_left 0
    try simp only [Act.put, List.setIfInBounds_toArray, List.set_cons_zero, List.set_cons_succ]
    refine wpAnyH_take (i := 8) (oi := ⟨some 19, _, _, _, _, _⟩) (v := (.slice Ab lb cb)) rfl (by kernel_rfl) (by kernel_rfl) (by kernel_rfl) (fun _ _ _ h => h) (Or.inl ⟨by rfl, fun W' hS => by have hcv := HR2.out W' hS; go_simp⟩) (by assumption) ?_
    try simp only [Act.put, List.setIfInBounds_toArray, List.set_cons_zero, List.set_cons_succ]
    refine wpAnyH_take (i := 9) (oi := ⟨some 20, _, _, _, _, _⟩) (v := ?_) rfl (by kernel_rfl) (by kernel_rfl) (by kernel_rfl) (fun _ _ _ h => h) (Or.inl ⟨by rfl, ?_⟩) (by assumption) ?_
    rotate_left
    · intro w hSw; (try dsimp only at hSw); go_simp; try (with_reducible rfl)
    rotate_left 0
    try simp only [Act.put, List.setIfInBounds_toArray, List.set_cons_zero, List.set_cons_succ]
    refine wpAnyH_take (i := 10) (oi := ⟨some 21, _, _, _, _, _⟩) (v := ?_) rfl (by kernel_rfl) (by kernel_rfl) (by kernel_rfl) (fun _ _ _ h => h) (Or.inl ⟨by rfl, ?_⟩) (by assumption) ?_
    rotate_left
    · intro w hSw; (try dsimp only at hSw); go_simp; try (with_reducible rfl)
    rotate_left 0
    try simp only [Act.put, List.setIfInBounds_toArray, List.set_cons_zero, List.set_cons_succ]
    refine wpAnyH_take (i := 11) (oi := ⟨some 22, _, _, _, _, _⟩) (v := ?_) rfl (by kernel_rfl) (by kernel_rfl) (by kernel_rfl) (fun _ _ _ h => h) (Or.inl ⟨by rfl, ?_⟩) (by assumption) ?_
    rotate_left
    · intro w hSw; (try dsimp only at hSw); go_simp; try (with_reducible rfl)
    rotate_left 0
    try simp only [Act.put, List.setIfInBounds_toArray, List.set_cons_zero, List.set_cons_succ]
    refine wpAnyH_done (by kernel_rfl) ?_ _
    have HX := Lib.hid hbX
    clear hbX hmn1 hmn2
    gi_wp2
    gi_loopw [22] (fun i wr => ∃ q : Nat, q ≤ mn ∧ i = .int .i64 (q : Int) ∧ Below Wb.heap.size Wb wr ∧ ∀ j, j < q → l1[j]? = l2[j]?) (fun i _ => mn - (intOf i).toNat)
    case atStart => exact ⟨0, Nat.zero_le _, rfl, HX.out, fun j hj => by omega⟩
    case round =>
      clear HX
      obtain ⟨q, hq0, rfl, hbq, hag⟩ := hrel
      obtain ⟨Wq, hWq⟩ : ∃ z, z = wr := ⟨_, rfl⟩
      subst hWq
      have HBQ := Lib.hid hbq
      have HAG := Lib.hid hag
      clear hbq hag
      by_cases hqm : q < mn
      · have hqi : (q : Int) < (mn : Int) := by omega
        have hqa : q < la := by have := HMN.out; omega
        have hqb : q < lb := by have := HMN.out; omega
        have hqai : (q : Int) < (la : Int) := by omega
        have hqbi : (q : Int) < (lb : Int) := by omega
        have hga := getD_at (l := l1) 0 (show q < l1.length by rw [HLA.out]; exact hqa)
        have hgb := getD_at (l := l2) 0 (show q < l2.length by rw [HLB.out]; exact hqb)
        obtain ⟨x, hx⟩ : ∃ z, l1.getD q 0 = z := ⟨_, rfl⟩
        obtain ⟨y', hy'⟩ : ∃ z, l2.getD q 0 = z := ⟨_, rfl⟩
        rw [hx] at hga
        rw [hy'] at hgb
        obtain ⟨ad1, rfl, had1, hcx⟩ := HEL1.out q x hga
        obtain ⟨ad2, rfl, had2, hcy⟩ := HEL2.out q y' hgb
        have hl1' : ad1.block < Wb.heap.size := by have := block_lt_of_cell hcx; rwa [block_add] at this
        have hl2' : ad2.block < Wb.heap.size := by have := block_lt_of_cell hcy; rwa [block_add] at this
        have HQ1 := Lib.hid hga
        have HQ2 := Lib.hid hgb
        have HC1q : Hid (∀ W'', Below Wq.heap.size Wq W'' → W''.cell? ⟨d, 0, none⟩ = some (.slice (some ⟨g, 0, none⟩) n n)) := Lib.hid fun W'' hb => HC1.out W'' (HBQ.out.trans (hb.mono HBQ.out.size))
        have HR1q : Hid (∀ W'', Below Wq.heap.size Wq W'' → W''.cell? ⟨g, a, none⟩ = some (.slice (some ad1) la ca)) := Lib.hid fun W'' hb => HR1.out W'' (HBQ.out.trans (hb.mono HBQ.out.size))
        have HR2q : Hid (∀ W'', Below Wq.heap.size Wq W'' → W''.cell? ⟨g, b, none⟩ = some (.slice (some ad2) lb cb)) := Lib.hid fun W'' hb => HR2.out W'' (HBQ.out.trans (hb.mono HBQ.out.size))
        have HX1 : Hid (∀ W'', Below Wq.heap.size Wq W'' → W''.cell? (ad1.add q) = some (.int .i64 (x : Int))) := Lib.hid fun W'' hb => ((HBQ.out.trans (hb.mono HBQ.out.size)).cell (p := ad1.add q) (by rw [block_add]; exact hl1')).trans hcx
        have HX2 : Hid (∀ W'', Below Wq.heap.size Wq W'' → W''.cell? (ad2.add q) = some (.int .i64 (y' : Int))) := Lib.hid fun W'' hb => ((HBQ.out.trans (hb.mono HBQ.out.size)).cell (p := ad2.add q) (by rw [block_add]; exact hl2')).trans hcy
        have hbX : Below Wq.heap.size Wq Wq.drew := (Below.refl _ _).drew
        clear hga hgb hx hy' hcx hcy had1 had2 hl1' hl2'
        gi_wp2
        by_cases hxy : x = y'
        · have hxy2 : ((x : Int) == (y' : Int)) = true := by rw [beq_iff_eq, hxy]
          have HXY := Lib.hid hxy
          clear hxy
          refine region_round (S := fun W'' => Below Wq.heap.size Wq W'') (by kernel_rfl) (fun ⟨_, _, h⟩ => h) (by kernel_rfl) ?_ (fun hHeld => ?_)
          · exact hbX
          refine wpAnyH_take (i := 0) (oi := ⟨some 25, _, _, _, _, _⟩) (v := (.slice (some ⟨g, 0, none⟩) n n)) rfl (by kernel_rfl) (by kernel_rfl) (by kernel_rfl) (fun _ _ _ h => h) (Or.inl ⟨by rfl, fun W' hS => by have hcv := HC1q.out W' hS; go_simp⟩) (by assumption) ?_
          try simp only [Act.put, List.setIfInBounds_toArray, List.set_cons_zero, List.set_cons_succ]
          refine wpAnyH_take (i := 1) (oi := ⟨some 26, _, _, _, _, _⟩) (v := ?_) rfl (by kernel_rfl) (by kernel_rfl) (by kernel_rfl) (fun _ _ _ h => h) (Or.inl ⟨by rfl, ?_⟩) (by assumption) ?_
          rotate_left
          · intro w hSw; (try dsimp only at hSw); go_simp; try (with_reducible rfl)
          rotate_left 0
          try simp only [Act.put, List.setIfInBounds_toArray, List.set_cons_zero, List.set_cons_succ]
          refine wpAnyH_take (i := 2) (oi := ⟨some 27, _, _, _, _, _⟩) (v := ?_) rfl (by kernel_rfl) (by kernel_rfl) (by kernel_rfl) (fun _ _ _ h => h) (Or.inl ⟨by rfl, ?_⟩) (by assumption) ?_
          rotate_left
          · intro w hSw; (try dsimp only at hSw); go_simp; try (with_reducible rfl)
          rotate_left 0
          try simp only [Act.put, List.setIfInBounds_toArray, List.set_cons_zero, List.set_cons_succ]
          refine wpAnyH_take (i := 3) (oi := ⟨some 28, _, _, _, _, _⟩) (v := (.slice (some ad1) la ca)) rfl (by kernel_rfl) (by kernel_rfl) (by kernel_rfl) (fun _ _ _ h => h) (Or.inl ⟨by rfl, fun W' hS => by have hcv := HR1q.out W' hS; go_simp⟩) (by assumption) ?_
          try simp only [Act.put, List.setIfInBounds_toArray, List.set_cons_zero, List.set_cons_succ]
          refine wpAnyH_take (i := 4) (oi := ⟨some 29, _, _, _, _, _⟩) (v := ?_) rfl (by kernel_rfl) (by kernel_rfl) (by kernel_rfl) (fun _ _ _ h => h) (Or.inl ⟨by rfl, ?_⟩) (by assumption) ?_
          rotate_left
          · intro w hSw; (try dsimp only at hSw); go_simp; try (with_reducible rfl)
          rotate_left 0
          try simp only [Act.put, List.setIfInBounds_toArray, List.set_cons_zero, List.set_cons_succ]
          refine wpAnyH_take (i := 5) (oi := ⟨some 30, _, _, _, _, _⟩) (v := ?_) rfl (by kernel_rfl) (by kernel_rfl) (by kernel_rfl) (fun _ _ _ h => h) (Or.inl ⟨by rfl, ?_⟩) (by assumption) ?_
          rotate_left
          · intro w hSw; (try dsimp only at hSw); go_simp; try (with_reducible rfl)
          rotate_left 0
          try simp only [Act.put, List.setIfInBounds_toArray, List.set_cons_zero, List.set_cons_succ]
          refine wpAnyH_take (i := 6) (oi := ⟨some 31, _, _, _, _, _⟩) (v := (.int .i64 (x : Int))) rfl (by kernel_rfl) (by kernel_rfl) (by kernel_rfl) (fun _ _ _ h => h) (Or.inl ⟨by rfl, fun W' hS => by have hcv := HX1.out W' hS; go_simp⟩) (by assumption) ?_
          try simp only [Act.put, List.setIfInBounds_toArray, List.set_cons_zero, List.set_cons_succ]
          refine wpAnyH_take (i := 7) (oi := ⟨some 32, _, _, _, _, _⟩) (v := (.slice (some ⟨g, 0, none⟩) n n)) rfl (by kernel_rfl) (by kernel_rfl) (by kernel_rfl) (fun _ _ _ h => h) (Or.inl ⟨by rfl, fun W' hS => by have hcv := HC1q.out W' hS; go_simp⟩) (by assumption) ?_
          try simp only [Act.put, List.setIfInBounds_toArray, List.set_cons_zero, List.set_cons_succ]
          refine wpAnyH_take (i := 8) (oi := ⟨some 33, _, _, _, _, _⟩) (v := ?_) rfl (by kernel_rfl) (by kernel_rfl) (by kernel_rfl) (fun _ _ _ h => h) (Or.inl ⟨by rfl, ?_⟩) (by assumption) ?_
          rotate_left
          · intro w hSw; (try dsimp only at hSw); go_simp; try (with_reducible rfl)
          rotate_left 0
          try simp only [Act.put, List.setIfInBounds_toArray, List.set_cons_zero, List.set_cons_succ]
          refine wpAnyH_take (i := 9) (oi := ⟨some 34, _, _, _, _, _⟩) (v := ?_) rfl (by kernel_rfl) (by kernel_rfl) (by kernel_rfl) (fun _ _ _ h => h) (Or.inl ⟨by rfl, ?_⟩) (by assumption) ?_
          rotate_left
          · intro w hSw; (try dsimp only at hSw); go_simp; try (with_reducible rfl)
          rotate_left 0
          try simp only [Act.put, List.setIfInBounds_toArray, List.set_cons_zero, List.set_cons_succ]
          refine wpAnyH_take (i := 10) (oi := ⟨some 35, _, _, _, _, _⟩) (v := (.slice (some ad2) lb cb)) rfl (by kernel_rfl) (by kernel_rfl) (by kernel_rfl) (fun _ _ _ h => h) (Or.inl ⟨by rfl, fun W' hS => by have hcv := HR2q.out W' hS; go_simp⟩) (by assumption) ?_
          try simp only [Act.put, List.setIfInBounds_toArray, List.set_cons_zero, List.set_cons_succ]
          refine wpAnyH_take (i := 11) (oi := ⟨some 36, _, _, _, _, _⟩) (v := ?_) rfl (by kernel_rfl) (by kernel_rfl) (by kernel_rfl) (fun _ _ _ h => h) (Or.inl ⟨by rfl, ?_⟩) (by assumption) ?_
          rotate_left
          · intro w hSw; (try dsimp only at hSw); go_simp; try (with_reducible rfl)
          rotate_left 0
          try simp only [Act.put, List.setIfInBounds_toArray, List.set_cons_zero, List.set_cons_succ]
          refine wpAnyH_take (i := 12) (oi := ⟨some 37, _, _, _, _, _⟩) (v := ?_) rfl (by kernel_rfl) (by kernel_rfl) (by kernel_rfl) (fun _ _ _ h => h) (Or.inl ⟨by rfl, ?_⟩) (by assumption) ?_
          rotate_left
          · intro w hSw; (try dsimp only at hSw); go_simp; try (with_reducible rfl)
          rotate_left 0
          try simp only [Act.put, List.setIfInBounds_toArray, List.set_cons_zero, List.set_cons_succ]
          refine wpAnyH_take (i := 13) (oi := ⟨some 38, _, _, _, _, _⟩) (v := (.int .i64 (y' : Int))) rfl (by kernel_rfl) (by kernel_rfl) (by kernel_rfl) (fun _ _ _ h => h) (Or.inl ⟨by rfl, fun W' hS => by have hcv := HX2.out W' hS; go_simp⟩) (by assumption) ?_
          try simp only [Act.put, List.setIfInBounds_toArray, List.set_cons_zero, List.set_cons_succ]
          refine wpAnyH_take (i := 14) (oi := ⟨some 39, _, _, _, _, _⟩) (v := ?_) rfl (by kernel_rfl) (by kernel_rfl) (by kernel_rfl) (fun _ _ _ h => h) (Or.inl ⟨by rfl, ?_⟩) (by assumption) ?_
          rotate_left
          · intro w hSw; (try dsimp only at hSw); go_simp; try (with_reducible rfl)
          rotate_left 0
          try simp only [Act.put, List.setIfInBounds_toArray, List.set_cons_zero, List.set_cons_succ]
          refine wpAnyH_done (by kernel_rfl) ?_ _
          have HX := Lib.hid (HBQ.out.trans (hbX.mono HBQ.out.size))
          clear hbX
          gi_wp2
          refine ⟨⟨q + 1, by omega, by rfl, HX.out, fun j hj => ?_⟩, ?_⟩
          · by_cases e : j = q
            · rw [e, HQ1.out, HQ2.out, HXY.out]
            · exact HAG.out j (by omega)
          · simp only [intOf]
            omega
        · have hxy2 : ((x : Int) == (y' : Int)) = false := by rw [beq_eq_false_iff_ne]; omega
          have HXY := Lib.hid hxy
          clear hxy
          refine region_round (S := fun W'' => Below Wq.heap.size Wq W'') (by kernel_rfl) (fun ⟨_, _, h⟩ => h) (by kernel_rfl) ?_ (fun hHeld => ?_)
          · exact hbX
          refine wpAnyH_take (i := 0) (oi := ⟨some 25, _, _, _, _, _⟩) (v := (.slice (some ⟨g, 0, none⟩) n n)) rfl (by kernel_rfl) (by kernel_rfl) (by kernel_rfl) (fun _ _ _ h => h) (Or.inl ⟨by rfl, fun W' hS => by have hcv := HC1q.out W' hS; go_simp⟩) (by assumption) ?_
          try simp only [Act.put, List.setIfInBounds_toArray, List.set_cons_zero, List.set_cons_succ]
          refine wpAnyH_take (i := 1) (oi := ⟨some 26, _, _, _, _, _⟩) (v := ?_) rfl (by kernel_rfl) (by kernel_rfl) (by kernel_rfl) (fun _ _ _ h => h) (Or.inl ⟨by rfl, ?_⟩) (by assumption) ?_
          rotate_left
          · intro w hSw; (try dsimp only at hSw); go_simp; try (with_reducible rfl)
          rotate_left 0
          try simp only [Act.put, List.setIfInBounds_toArray, List.set_cons_zero, List.set_cons_succ]
          refine wpAnyH_take (i := 2) (oi := ⟨some 27, _, _, _, _, _⟩) (v := ?_) rfl (by kernel_rfl) (by kernel_rfl) (by kernel_rfl) (fun _ _ _ h => h) (Or.inl ⟨by rfl, ?_⟩) (by assumption) ?_
          rotate_left
          · intro w hSw; (try dsimp only at hSw); go_simp; try (with_reducible rfl)
          rotate_left 0
          try simp only [Act.put, List.setIfInBounds_toArray, List.set_cons_zero, List.set_cons_succ]
          refine wpAnyH_take (i := 3) (oi := ⟨some 28, _, _, _, _, _⟩) (v := (.slice (some ad1) la ca)) rfl (by kernel_rfl) (by kernel_rfl) (by kernel_rfl) (fun _ _ _ h => h) (Or.inl ⟨by rfl, fun W' hS => by have hcv := HR1q.out W' hS; go_simp⟩) (by assumption) ?_
          try simp only [Act.put, List.setIfInBounds_toArray, List.set_cons_zero, List.set_cons_succ]
          refine wpAnyH_take (i := 4) (oi := ⟨some 29, _, _, _, _, _⟩) (v := ?_) rfl (by kernel_rfl) (by kernel_rfl) (by kernel_rfl) (fun _ _ _ h => h) (Or.inl ⟨by rfl, ?_⟩) (by assumption) ?_
          rotate_left
          · intro w hSw; (try dsimp only at hSw); go_simp; try (with_reducible rfl)
          rotate_left 0
          try simp only [Act.put, List.setIfInBounds_toArray, List.set_cons_zero, List.set_cons_succ]
          refine wpAnyH_take (i := 5) (oi := ⟨some 30, _, _, _, _, _⟩) (v := ?_) rfl (by kernel_rfl) (by kernel_rfl) (by kernel_rfl) (fun _ _ _ h => h) (Or.inl ⟨by rfl, ?_⟩) (by assumption) ?_
          rotate_left
          · intro w hSw; (try dsimp only at hSw); go_simp; try (with_reducible rfl)
          rotate_left 0
          try simp only [Act.put, List.setIfInBounds_toArray, List.set_cons_zero, List.set_cons_succ]
          refine wpAnyH_take (i := 6) (oi := ⟨some 31, _, _, _, _, _⟩) (v := (.int .i64 (x : Int))) rfl (by kernel_rfl) (by kernel_rfl) (by kernel_rfl) (fun _ _ _ h => h) (Or.inl ⟨by rfl, fun W' hS => by have hcv := HX1.out W' hS; go_simp⟩) (by assumption) ?_
          try simp only [Act.put, List.setIfInBounds_toArray, List.set_cons_zero, List.set_cons_succ]
          refine wpAnyH_take (i := 7) (oi := ⟨some 32, _, _, _, _, _⟩) (v := (.slice (some ⟨g, 0, none⟩) n n)) rfl (by kernel_rfl) (by kernel_rfl) (by kernel_rfl) (fun _ _ _ h => h) (Or.inl ⟨by rfl, fun W' hS => by have hcv := HC1q.out W' hS; go_simp⟩) (by assumption) ?_
          try simp only [Act.put, List.setIfInBounds_toArray, List.set_cons_zero, List.set_cons_succ]
          refine wpAnyH_take (i := 8) (oi := ⟨some 33, _, _, _, _, _⟩) (v := ?_) rfl (by kernel_rfl) (by kernel_rfl) (by kernel_rfl) (fun _ _ _ h => h) (Or.inl ⟨by rfl, ?_⟩) (by assumption) ?_
          rotate_left
          · intro w hSw; (try dsimp only at hSw); go_simp; try (with_reducible rfl)
          rotate_left 0
          try simp only [Act.put, List.setIfInBounds_toArray, List.set_cons_zero, List.set_cons_succ]
          refine wpAnyH_take (i := 9) (oi := ⟨some 34, _, _, _, _, _⟩) (v := ?_) rfl (by kernel_rfl) (by kernel_rfl) (by kernel_rfl) (fun _ _ _ h => h) (Or.inl ⟨by rfl, ?_⟩) (by assumption) ?_
          rotate_left
          · intro w hSw; (try dsimp only at hSw); go_simp; try (with_reducible rfl)
          rotate_left 0
          try simp only [Act.put, List.setIfInBounds_toArray, List.set_cons_zero, List.set_cons_succ]
          refine wpAnyH_take (i := 10) (oi := ⟨some 35, _, _, _, _, _⟩) (v := (.slice (some ad2) lb cb)) rfl (by kernel_rfl) (by kernel_rfl) (by kernel_rfl) (fun _ _ _ h => h) (Or.inl ⟨by rfl, fun W' hS => by have hcv := HR2q.out W' hS; go_simp⟩) (by assumption) ?_
          try simp only [Act.put, List.setIfInBounds_toArray, List.set_cons_zero, List.set_cons_succ]
          refine wpAnyH_take (i := 11) (oi := ⟨some 36, _, _, _, _, _⟩) (v := ?_) rfl (by kernel_rfl) (by kernel_rfl) (by kernel_rfl) (fun _ _ _ h => h) (Or.inl ⟨by rfl, ?_⟩) (by assumption) ?_
          rotate_left
          · intro w hSw; (try dsimp only at hSw); go_simp; try (with_reducible rfl)
          rotate_left 0
          try simp only [Act.put, List.setIfInBounds_toArray, List.set_cons_zero, List.set_cons_succ]
          refine wpAnyH_take (i := 12) (oi := ⟨some 37, _, _, _, _, _⟩) (v := ?_) rfl (by kernel_rfl) (by kernel_rfl) (by kernel_rfl) (fun _ _ _ h => h) (Or.inl ⟨by rfl, ?_⟩) (by assumption) ?_
          rotate_left
          · intro w hSw; (try dsimp only at hSw); go_simp; try (with_reducible rfl)
          rotate_left 0
          try simp only [Act.put, List.setIfInBounds_toArray, List.set_cons_zero, List.set_cons_succ]
          refine wpAnyH_take (i := 13) (oi := ⟨some 38, _, _, _, _, _⟩) (v := (.int .i64 (y' : Int))) rfl (by kernel_rfl) (by kernel_rfl) (by kernel_rfl) (fun _ _ _ h => h) (Or.inl ⟨by rfl, fun W' hS => by have hcv := HX2.out W' hS; go_simp⟩) (by assumption) ?_
          try simp only [Act.put, List.setIfInBounds_toArray, List.set_cons_zero, List.set_cons_succ]
          refine wpAnyH_take (i := 14) (oi := ⟨some 39, _, _, _, _, _⟩) (v := ?_) rfl (by kernel_rfl) (by kernel_rfl) (by kernel_rfl) (fun _ _ _ h => h) (Or.inl ⟨by rfl, ?_⟩) (by assumption) ?_
          rotate_left
          · intro w hSw; (try dsimp only at hSw); go_simp; try (with_reducible rfl)
          rotate_left 0
          try simp only [Act.put, List.setIfInBounds_toArray, List.set_cons_zero, List.set_cons_succ]
          refine wpAnyH_done (by kernel_rfl) ?_ _
          have HX := Lib.hid (HBQ.out.trans (hbX.mono HBQ.out.size))
          have HD : Hid (partsOf E (pre ++ [(a, b)]) = partsOf E pre ++ [(a, b, q)]) := Lib.hid (by
            rw [partsOf_append, partsOf_some (by rw [HL12.out.1, HL12.out.2]; exact diffL_some (by rw [HLA.out]; exact hqa) (by rw [HLB.out]; exact hqb) (by rw [HQ1.out, HQ2.out]; exact fun e => HXY.out (Option.some.inj e)) HAG.out)])
          have HPF : Hid ((partsOf E pre ++ [(a, b, q)]) <+: partsL E) := Lib.hid (by rw [← HD.out]; have := HPP.out; unfold partsL; rw [HN.out]; exact this)
          have hW : W.heap.size ≤ Wb.heap.size := Nat.le_trans (by have := HA.out.2.2.2; have := HP.out.2.size; omega) HI.out.2.2.2
          have k2x := HI.out.2.1.below HX.out HI.out.2.1.lt
          have k3x := HI.out.2.2.1.below HX.out HI.out.2.2.1.lt
          have cy : _ = some (Value.func (.yield y) #[] #[]) := (k2x.cell 0).trans rfl
          have hszx := HX.out.size
          obtain ⟨fn, tm, assign, bd, hy, hR1⟩ := HY.out _ (a, b, q) _ HPF.out (HJ.out _ _ _ HI.out.1 (HX.out.mono hW))
          dsimp only [encT] at hy
          have HK23 := Lib.hid (And.intro k2x (And.intro k3x hszx))
          have HWW := Lib.hid hW
          clear hbX k2x k3x hszx hW
          gi_wp2_with (first
            | (refine ⟨rfl, ?_⟩; refine hR1.mono ?_; clear hR1; rintro e W6 (⟨rfl, hJ2, hk2, hf2⟩ | ⟨rfl, hJx2, hf2⟩)))
          · have hW := HWW.out
            have hA1 := HA.out.2.2.2
            refine ⟨keepsFrom_trans (keepsFrom_of_below HX.out) (keepsFrom_mono hf2 (by have := HP.out.2.size; omega)), (Keep.of_below HX.out).trans hk2, by rw [HD.out]; exact hJ2, HK23.out.1.kept hk2 (fun h => by have := HOWN.out _ h; omega), HK23.out.2.1.kept hk2 (fun h => by have := HOWN.out _ h; omega), Nat.le_trans (Nat.le_trans HI.out.2.2.2 HK23.out.2.2) hk2.size⟩
          · have hA1 := HA.out.2.2.2
            exact ⟨keepsFrom_trans (keepsFrom_of_below HX.out) (keepsFrom_mono hf2 (by have := HP.out.2.size; omega)), rfl, _, HPF.out, by simp, hJx2⟩
      · obtain rfl : q = mn := by omega
        have HNO : Hid (partsOf E (pre ++ [(a, b)]) = partsOf E pre) := Lib.hid (by
          rw [partsOf_append, partsOf_none (by rw [HL12.out.1, HL12.out.2]; exact diffL_none fun j h1 h2 => HAG.out j (by rw [HLA.out] at h1; rw [HLB.out] at h2; have := HMN.out; omega)), List.append_nil])
        gi_wp2
        have hi := HI.out
        have hW : W.heap.size ≤ Wb.heap.size := Nat.le_trans (by have := HA.out.2.2.2; have := HP.out.2.size; omega) hi.2.2.2
        exact ⟨keepsFrom_of_below HBQ.out, Keep.of_below HBQ.out, by rw [HNO.out]; exact HJ.out _ _ _ hi.1 (HBQ.out.mono hW), hi.2.1.below HBQ.out hi.2.1.lt, hi.2.2.1.below HBQ.out hi.2.2.1.lt, Nat.le_trans hi.2.2.2 HBQ.out.size⟩
  case done =>
    rintro D Wd hD hi hK
    have HMK : Hid (Marks W.heap.size ({ target := .collected D, args := #[] } :: []) Wd) := Lib.hid ⟨D, rfl, by have := HP.out.2.size; have := HA.out.2.2.2; omega, hK, fun e he => by simp at he, trivial⟩
    have HL : Hid (J (partsL E) Wd) := Lib.hid (by unfold partsL; rw [HN.out]; exact hi.1)
    clear hi hK
    gi_wp2
    exact leaves_marks (by simp) _ _ HMK.out fun w' hb => ⟨_, results_none rfl _ _ _, ⟨_, rfl⟩, .inl (HJ.out _ _ _ HL.out hb)⟩
  case stop =>
    rintro D c pre Wd hD hpre hne ⟨rfl, l, hl1, hl2, hl3⟩ hK
    have HMK : Hid (Marks W.heap.size ({ target := .collected D, args := #[] } :: []) Wd) := Lib.hid ⟨D, rfl, by have := HP.out.2.size; have := HA.out.2.2.2; omega, hK, fun e he => by simp at he, trivial⟩
    have HL := Lib.hid (And.intro hl1 (And.intro hl2 hl3))
    clear hl1 hl2 hl3 hK
    gi_wp2
    exact leaves_marks (by simp) _ _ HMK.out fun w' hb => ⟨_, results_none rfl _ _ _, ⟨_, rfl⟩, .inr ⟨l, HL.out.1, HL.out.2.1, HJX.out _ _ _ HL.out.2.2 hb⟩⟩
end Go.Proofs.Ytjdgcciemlfapaa
namespace Go.Proofs.Ytjdgcciemlfapaa
open Go Go.RowKit Go.Shelf Go.Maps
attribute [local go_sem] Oper.semAt_some

theorem loadVar_oneA {P : Program} {ty : TypeId} {d : TypeDesc} {a : Addr} {v : Value} {w : World} (hu : P.underlying ty = some d) (hd : (match d with | .struct _ | .array _ _ => true | _ => false) = false) (hc : w.cell? a = some v) :
    (Go.loadVar ty a).run P w = .ok v w := by
  have hagg : (isAgg ty).run P w = .ok false w := by
    unfold isAgg
    rw [Sem.run_bind, run_underlying hu w]
    cases d <;> simp_all
  simp [loadVar, Sem.run_bind, hagg, hc, go_sem]
theorem results_cell1 {P : Program} {fn : Func} {p : Tmp} {ty : TypeId} (h : fn.results = #[.cell p ty]) (tmps : Array Value) (w : World) (a : Addr) (x : Value)
    (hp : tmps.getD p undef = .pointer (some a)) (hx : (Go.loadVar ty a).run P w = .ok x w) : (results fn tmps).run P w = .ok x w := by
  have hp' : tmps[p]?.getD undef = .pointer (some a) := by simpa using hp
  simp [results, h, hp', asAddr, hx]
set_option maxRecDepth 100000 in
set_option maxHeartbeats 4000000 in
theorem parts_any (A : Option Addr) (c : Nat) (L : List (List (List UInt8))) (w : World) (hr : RdPP w (fun b => b < w.heap.size) A L) (hf : FewL L) :
    Calls Try.prog 29 #[.slice A L.length c] w fun e w' => ∃ d g E, e = .returned (.func (.func 44) #[] #[.pointer (some ⟨d, 0, none⟩)]) ∧ PartInv d w.heap.size g E w' ∧ w.heap.size ≤ d ∧ E.length = L.length ∧ (∀ l ∈ E, l.length ≤ 12) ∧ partsL E = partsL L ∧ Below w.heap.size w w' := by
  have HNU := Lib.hid (numbered_any A c L w hr hf)
  obtain ⟨n, hn⟩ : ∃ n, L.length = n := ⟨_, rfl⟩
  have HN := Lib.hid hn
  have HF := Lib.hid hf
  rw [hn] at HNU ⊢
  clear hr hf hn
  go_enter Try.func29, Try.ntmps29
  go_wp2_with (go_at_call 43; refine HNU.out.mono ?_; rintro e W1 ⟨S, E, rfl, hE, hlen, hnum, hb1⟩; have H1 := Lib.hid (And.intro hE (And.intro hlen (And.intro hnum hb1))); clear hE hlen hnum hb1)
  go_ret
  obtain ⟨hE, hlen, hnum, hb1⟩ := H1.out
  have hb2 : Below W1.heap.size W1 (W1.alloc (.cells #[.slice (some ⟨w.heap.size + 1, 0, none⟩) n n] 97)) := (Below.refl _ _).alloc (Nat.le_refl _) _
  obtain ⟨q1, f, q2, q3⟩ := hE
  refine ⟨W1.heap.size, w.heap.size + 1, E, rfl, ⟨?_, q1, f, q2.below hb2 q2.lt, fun j hj => (q3 j hj).kept fun a x _ hx => (hb2.cell (p := a) (World.block_lt_of_cell? _ a hx)).trans hx⟩, hb1.size, hlen, ?_, hnum.parts, hb1.trans (hb2.mono hb1.size)⟩
  · rw [hlen]
    exact Blk.newAt _ _ rfl rfl
  · obtain ⟨_, rfl⟩ := hnum
    intro l hl
    obtain ⟨l0, hl0, rfl⟩ := List.mem_map.1 hl
    rw [List.length_map]
    exact (HF.out.2 l0 hl0).1
/-- Two lists of two entries each. -/
structure FinM (w : World) (B ga gb : Nat) (W : World) : Prop where
  ra : RdP W (fun b => b < B) (some ⟨ga, 0, none⟩) [[120], [121]]
  rb : RdP W (fun b => b < B) (some ⟨gb, 0, none⟩) [[120], [122]]
  kb : Blk W w.heap.size 4 #[.bool false]
  base : w.heap.size < B ∧ B ≤ W.heap.size
  old : Below w.heap.size w W
theorem FinM.below {w W W' : World} {B ga gb : Nat} (h : FinM w B ga gb W) (hb : Below W.heap.size W W') : FinM w B ga gb W' :=
  ⟨h.ra.kept fun a _x ha hx => (hb.cell (p := a) (Nat.lt_of_lt_of_le ha h.base.2)).trans hx, h.rb.kept fun a _x ha hx => (hb.cell (p := a) (Nat.lt_of_lt_of_le ha h.base.2)).trans hx, h.kb.below hb h.kb.lt, ⟨h.base.1, Nat.le_trans h.base.2 hb.size⟩, h.old.trans (hb.mono h.old.size)⟩
theorem rdB_oneA {W : World} {ok : Nat → Prop} {g : Nat} {x : UInt8} (h : W.heap[g]? = some (.cells #[.int .u8 (x.toNat : Int)] 5 (1, 2))) (hok : ok g) : RdB W ok (.slice (some ⟨g, 0, none⟩) 1 1) [x] :=
  ⟨_, 1, rfl, Nat.le_refl _, by simp, fun _ => ⟨_, rfl, hok, fun j hj => by
    have : j = 0 := by simpa using hj
    subst this
    rw [add_zero_block, cell_of_row W g 0 _ _ _ h]
    rfl⟩⟩
theorem rdP_twoA {W : World} {ok : Nat → Prop} {g : Nat} {u v : Value} {x y : List UInt8} (h : Blk W g 24 #[u, v]) (hx : RdB W ok u x) (hy : RdB W ok v y) (hok : ok g) : RdP W ok (some ⟨g, 0, none⟩) [x, y] := fun k hk => by
  match k, hk with
  | 0, _ => exact ⟨_, u, rfl, hok, by rw [add_zero_block, h.cell]; rfl, hx⟩
  | 1, _ => exact ⟨_, v, rfl, hok, by rw [add_zero_block, h.cell]; rfl, hy⟩
theorem rdP_headA {W : World} {ok : Nat → Prop} {A : Option Addr} {x y : List UInt8} (h : RdP W ok A [x, y]) : RdP W ok A [x] := fun k hk => by
  match k, hk with
  | 0, _ => exact h 0 (by simp)
theorem rdPP_threeA {W : World} {ok : Nat → Prop} {g n1 c1 n2 c2 n3 c3 : Nat} {A1 A2 A3 : Option Addr} {x y z : List (List UInt8)} (h : Blk W g 26 #[.slice A1 n1 c1, .slice A2 n2 c2, .slice A3 n3 c3]) (h1 : x.length = n1 ∧ n1 ≤ 100 ∧ RdP W ok A1 x) (h2 : y.length = n2 ∧ n2 ≤ 100 ∧ RdP W ok A2 y) (h3 : z.length = n3 ∧ n3 ≤ 100 ∧ RdP W ok A3 z) (hok : ok g) :
    RdPP W ok (some ⟨g, 0, none⟩) [x, y, z] := fun k hk => by
  obtain ⟨rfl, l1, r1⟩ := h1
  obtain ⟨rfl, l2, r2⟩ := h2
  obtain ⟨rfl, l3, r3⟩ := h3
  match k, hk with
  | 0, _ => exact ⟨_, A1, c1, rfl, hok, by rw [add_zero_block, h.cell]; rfl, by show x.length ≤ _; omega, r1⟩
  | 1, _ => exact ⟨_, A2, c2, rfl, hok, by rw [add_zero_block, h.cell]; rfl, by show y.length ≤ _; omega, r2⟩
  | 2, _ => exact ⟨_, A3, c3, rfl, hok, by rw [add_zero_block, h.cell]; rfl, by show z.length ≤ _; omega, r3⟩
theorem elB : ElC Try.prog 24 26 1 24 := ⟨Try.underlying26, by kernel_rfl, by omega, by omega⟩
theorem old1 {W : World} {o o' : Obj} {g : Nat} (h : W.heap[g]? = some o) : (W.alloc o').heap[g]? = some o := (Below.heap_alloc _ _ _ (Array.getElem?_eq_some_iff.1 h).1).trans h
theorem new1 {W : World} {o : Obj} {g : Nat} (h : W.heap.size = g) : (W.alloc o).heap[g]? = some o := by subst h; exact World.alloc_heap_new W o
theorem fin_mem (w : World) : ∃ W, (((((((w.alloc (.cells #[.bool false] 4)).alloc (.cells #[.int .u8 120] 5 (1, 2))).alloc (.cells #[.int .u8 121] 5 (1, 2))).alloc (.cells #[.slice (some ⟨w.heap.size + 1, 0, none⟩) 1 1, .slice (some ⟨w.heap.size + 1 + 1, 0, none⟩) 1 1] 24)).alloc (.cells #[.int .u8 120] 5 (1, 2))).alloc (.cells #[.int .u8 122] 5 (1, 2))).alloc (.cells #[.slice (some ⟨w.heap.size + 1 + 1 + 1 + 1, 0, none⟩) 1 1, .slice (some ⟨w.heap.size + 1 + 1 + 1 + 1 + 1, 0, none⟩) 1 1] 24)) = W ∧
    FinM w W.heap.size (w.heap.size + 1 + 1 + 1) (w.heap.size + 1 + 1 + 1 + 1 + 1 + 1) W := by
  refine ⟨_, rfl, ?_⟩
  generalize hW : World.alloc _ (.cells #[.slice (some ⟨w.heap.size + 1 + 1 + 1 + 1, 0, none⟩) 1 1, .slice (some ⟨w.heap.size + 1 + 1 + 1 + 1 + 1, 0, none⟩) 1 1] 24) = W
  have hs : W.heap.size = w.heap.size + 7 := by rw [← hW]; simp
  have k0 : Blk W w.heap.size 4 #[.bool false] := by rw [← hW]; exact ((((((Blk.newAt _ _ rfl rfl).alloc _).alloc _).alloc _).alloc _).alloc _).alloc _
  have k1 : W.heap[w.heap.size + 1]? = some (.cells #[.int .u8 120] 5 (1, 2)) := by rw [← hW]; exact old1 (old1 (old1 (old1 (old1 (new1 (by simp))))))
  have k2 : W.heap[w.heap.size + 1 + 1]? = some (.cells #[.int .u8 121] 5 (1, 2)) := by rw [← hW]; exact old1 (old1 (old1 (old1 (new1 (by simp)))))
  have k3 : Blk W (w.heap.size + 1 + 1 + 1) 24 #[.slice (some ⟨w.heap.size + 1, 0, none⟩) 1 1, .slice (some ⟨w.heap.size + 1 + 1, 0, none⟩) 1 1] := by rw [← hW]; exact (((Blk.newAt _ _ (by simp) rfl).alloc _).alloc _).alloc _
  have k4 : W.heap[w.heap.size + 1 + 1 + 1 + 1]? = some (.cells #[.int .u8 120] 5 (1, 2)) := by rw [← hW]; exact old1 (old1 (new1 (by simp)))
  have k5 : W.heap[w.heap.size + 1 + 1 + 1 + 1 + 1]? = some (.cells #[.int .u8 122] 5 (1, 2)) := by rw [← hW]; exact old1 (new1 (by simp))
  have k6 : Blk W (w.heap.size + 1 + 1 + 1 + 1 + 1 + 1) 24 #[.slice (some ⟨w.heap.size + 1 + 1 + 1 + 1, 0, none⟩) 1 1, .slice (some ⟨w.heap.size + 1 + 1 + 1 + 1 + 1, 0, none⟩) 1 1] := by rw [← hW]; exact Blk.newAt _ _ (by simp) rfl
  have hb : Below w.heap.size w W := by rw [← hW]; exact (((((((Below.refl _ _).alloc (Nat.le_refl _) _).alloc (by simp) _).alloc (by simp; omega) _).alloc (by simp; omega) _).alloc (by simp; omega) _).alloc (by simp; omega) _).alloc (by simp; omega) _
  clear hW
  exact ⟨rdP_twoA k3 (rdB_oneA (x := 120) k1 (by omega)) (rdB_oneA (x := 121) k2 (by omega)) (by omega), rdP_twoA k6 (rdB_oneA (x := 120) k4 (by omega)) (rdB_oneA (x := 122) k5 (by omega)) (by omega), k0, ⟨by omega, Nat.le_refl _⟩, hb⟩
def finA : List (List UInt8) := [[120], [121]]
def finB : List (List UInt8) := [[120], [122]]
def finL : List (List (List UInt8)) := [finA, finB, [[120]]]
theorem finL_parts : partsL finL = [(0, 1, 1)] := by decide
theorem finL_few : FewL finL ∧ FewL [[[120]], finB, finA] := ⟨⟨by decide, fun l hl => by unfold okL; revert l; decide⟩, by decide, fun l hl => by unfold okL; revert l; decide⟩
theorem forB_fin : forB finA finB = (1, true) := by decide
end Go.Proofs.Ytjdgcciemlfapaa
namespace Go.Proofs.Ytjdgcciemlfapaa
open Go Go.RowKit Go.Shelf Go.Maps
attribute [local go_sem] Oper.semAt_some

/-- What an iterator reads lies as it lay. -/
def SameP (W6 : World) (d B : Nat) (W' : World) : Prop := ∀ b o, W6.heap[b]? = some o → o.isCells = true → (b = d ∨ B ≤ b) → W'.heap[b]? = some o
theorem SameP.inv {W6 W' : World} {d B g : Nat} {E : List (List Nat)} (h : SameP W6 d B W') (hp : PartInv d B g E W6) : PartInv d B g E W' := hp.same h
theorem SameP.below {W6 W' W2 : World} {d B : Nat} (h : SameP W6 d B W') (hb : Below W6.heap.size W' W2) : SameP W6 d B W2 := fun b o ho hc hq => (hb.block b (Array.getElem?_eq_some_iff.1 ho).1).trans (h b o ho hc hq)
theorem SameP.kept {W6 W' W2 : World} {d B nb : Nat} (h : SameP W6 d B W') (hk : Keep (fun b => b = nb) W' W2) (h1 : nb ≠ d) (h2 : nb < B) : SameP W6 d B W2 := fun b o ho hc hq => hk.cells b o (h b o ho hc hq) hc fun e => by rcases hq with q | q <;> omega
theorem only_one {pre : List (Nat × Nat × Nat)} {x y : Nat × Nat × Nat} (h : (pre ++ [x]) <+: [y]) : pre = [] ∧ x = y := by
  obtain ⟨t, ht⟩ := h
  cases pre with
  | nil => simp at ht; exact ⟨rfl, ht.1⟩
  | cons a r =>
    have := congrArg List.length ht
    simp at this
theorem neq_part (w : World) : (binOp .neq 45 (.agg #[.int .i64 0, .int .i64 1, .int .i64 1]) (.agg #[.int .i64 0, .int .i64 1, .int .i64 1])).run Try.prog w = .ok (.bool false) w := by kernel_rfl
set_option maxRecDepth 100000 in
set_option maxHeartbeats 8000000 in
theorem finds_any (w : World) : Calls Try.prog 12 #[] w fun e w' => e = .returned (.bool true) ∧ Below w.heap.size w w' := by
  have kc1 := fun (C : Array Value) (n c : Nat) => Go.Joins.run_convert_bytes_const_at (P := Try.prog) (w.alloc (.cells #[.bool false] 4)) 24 5 C n c (w.heap.size + 1) (by simp) Try.underlying24 Try.underlying5
  have kc2 := fun (C : Array Value) (n c : Nat) => Go.Joins.run_convert_bytes_const_at (P := Try.prog) ((w.alloc (.cells #[.bool false] 4)).alloc (.cells #[.int .u8 120] 5 (1, 2))) 24 5 C n c (w.heap.size + 1 + 1) (by simp) Try.underlying24 Try.underlying5
  have kc3 := fun (C : Array Value) (n c : Nat) => Go.Joins.run_convert_bytes_const_at (P := Try.prog) ((((w.alloc (.cells #[.bool false] 4)).alloc (.cells #[.int .u8 120] 5 (1, 2))).alloc (.cells #[.int .u8 121] 5 (1, 2))).alloc (.cells #[.slice (some ⟨w.heap.size + 1, 0, none⟩) 1 1, .slice (some ⟨w.heap.size + 1 + 1, 0, none⟩) 1 1] 24)) 24 5 C n c (w.heap.size + 1 + 1 + 1 + 1) (by simp) Try.underlying24 Try.underlying5
  have kc4 := fun (C : Array Value) (n c : Nat) => Go.Joins.run_convert_bytes_const_at (P := Try.prog) (((((w.alloc (.cells #[.bool false] 4)).alloc (.cells #[.int .u8 120] 5 (1, 2))).alloc (.cells #[.int .u8 121] 5 (1, 2))).alloc (.cells #[.slice (some ⟨w.heap.size + 1, 0, none⟩) 1 1, .slice (some ⟨w.heap.size + 1 + 1, 0, none⟩) 1 1] 24)).alloc (.cells #[.int .u8 120] 5 (1, 2))) 24 5 C n c (w.heap.size + 1 + 1 + 1 + 1 + 1) (by simp) Try.underlying24 Try.underlying5
  refine (callsIn_wide (n := 0)).1 ?_
  refine callsIn_of_wp_marks Try.func12 rfl trivial ?_ rfl
  simp only [Try.ntmps12, List.size_toArray, List.length_nil, Nat.reduceSub, Array.replicate_succ, Array.replicate_zero, List.push_toArray, List.append_toArray, List.nil_append, List.cons_append]
  refine wpIn_wide.2 ?_
  go_upto_region 2 with fail
  clear kc1 kc2 kc3 kc4
  obtain ⟨W1, hW1, hM1⟩ := fin_mem w
  rw [hW1]
  clear hW1
  obtain ⟨B, hB⟩ : ∃ z, W1.heap.size = z := ⟨_, rfl⟩
  obtain ⟨ga, hga⟩ : ∃ z, w.heap.size + 1 + 1 + 1 = z := ⟨_, rfl⟩
  obtain ⟨gb, hgb⟩ : ∃ z, ga + 1 + 1 + 1 = z := ⟨_, rfl⟩
  rw [hB, hga, hgb] at hM1
  rw [hga, hgb]
  have HM1 := Lib.hid hM1
  have HFO : Hid (Calls Try.prog 16 #[.slice (some ⟨ga, 0, none⟩) 2 2, .slice (some ⟨gb, 0, none⟩) 2 2] W1 fun e w' => e = .returned (.tuple #[.int .i64 1, .bool true]) ∧ Below W1.heap.size W1 w') := Lib.hid (by
    have := foreign_any (some ⟨ga, 0, none⟩) (some ⟨gb, 0, none⟩) 2 2 finA finB W1 (hM1.ra.mono fun b hb => by omega) (hM1.rb.mono fun b hb => by omega) (by decide) (by decide) (by decide) (by decide)
    rw [forB_fin] at this
    exact this)
  have hsl : ∀ W, (Instr.sliceAt 26 (.slice (some ⟨ga, 0, none⟩) 2 2) none (some (.int .i64 1)) none).run Try.prog W = .ok (.slice (some ⟨ga, 0, none⟩) 1 2) W := fun W => run_slice_toC elB (some ⟨ga, 0, none⟩) 2 2 1 (by omega) W
  have HLG : Hid (∀ W, FinM w B ga gb W → Calls Try.prog 28 #[.slice (some ⟨W.heap.size, 0, none⟩) 3 3] (W.alloc (.cells #[.slice (some ⟨ga, 0, none⟩) 1 2, .slice (some ⟨gb, 0, none⟩) 2 2, .slice (some ⟨ga, 0, none⟩) 2 2] 26)) fun e w' => ∃ A' c', e = .returned (.slice A' 2 c') ∧ w' = W.alloc (.cells #[.slice (some ⟨ga, 0, none⟩) 1 2, .slice (some ⟨gb, 0, none⟩) 2 2, .slice (some ⟨ga, 0, none⟩) 2 2] 26)) := Lib.hid fun W hM => by
    have hb : Below W.heap.size W (W.alloc (.cells #[.slice (some ⟨ga, 0, none⟩) 1 2, .slice (some ⟨gb, 0, none⟩) 2 2, .slice (some ⟨ga, 0, none⟩) 2 2] 26)) := (Below.refl _ _).alloc (Nat.le_refl _) _
    have hM' := hM.below hb
    have hrr := rdPP_threeA (ok := fun _ => True) (Blk.newAt W _ rfl rfl) ⟨rfl, by decide, (rdP_headA (hM'.ra.mono fun _ _ => trivial))⟩ ⟨rfl, by decide, hM'.rb.mono fun _ _ => trivial⟩ ⟨rfl, by decide, hM'.ra.mono fun _ _ => trivial⟩ trivial
    refine (longest_any (some ⟨W.heap.size, 0, none⟩) 3 [[[120]], finB, finA] _ _ hrr (by decide)).mono ?_
    rintro e w' ⟨A', q, c', rfl, h1, h2, rfl⟩
    have e1 := h1 finB (by simp)
    have hq : q = 2 := by
      rcases h2 with h | ⟨l, hl, h⟩
      · subst h
        exact absurd e1 (by decide)
      · have : finB.length = 2 := rfl
        have hl2 : l.length ≤ 2 := by
          simp only [List.mem_cons, List.not_mem_nil, or_false] at hl
          rcases hl with rfl | rfl | rfl <;> decide
        omega
    subst hq
    exact ⟨A', c', rfl, rfl⟩
  have HPT : Hid (∀ W, FinM w B ga gb W → Calls Try.prog 29 #[.slice (some ⟨W.heap.size, 0, none⟩) 3 3] (W.alloc (.cells #[.slice (some ⟨ga, 0, none⟩) 2 2, .slice (some ⟨gb, 0, none⟩) 2 2, .slice (some ⟨ga, 0, none⟩) 1 2] 26)) fun e w' => ∃ d g E, e = .returned (.func (.func 44) #[] #[.pointer (some ⟨d, 0, none⟩)]) ∧ PartInv d (W.heap.size + 1) g E w' ∧ W.heap.size + 1 ≤ d ∧ E.length ≤ 8 ∧ (∀ l ∈ E, l.length ≤ 12) ∧ partsL E = [(0, 1, 1)] ∧ FinM w B ga gb w' ∧ Below W.heap.size W w') := Lib.hid fun W hM => by
    obtain ⟨WW, hWW⟩ : ∃ z, W.alloc (.cells #[.slice (some ⟨ga, 0, none⟩) 2 2, .slice (some ⟨gb, 0, none⟩) 2 2, .slice (some ⟨ga, 0, none⟩) 1 2] 26) = z := ⟨_, rfl⟩
    have hb : Below W.heap.size W WW := by rw [← hWW]; exact (Below.refl _ _).alloc (Nat.le_refl _) _
    have hsz : WW.heap.size = W.heap.size + 1 := by rw [← hWW]; simp
    have kr : Blk WW W.heap.size 26 #[.slice (some ⟨ga, 0, none⟩) 2 2, .slice (some ⟨gb, 0, none⟩) 2 2, .slice (some ⟨ga, 0, none⟩) 1 2] := by rw [← hWW]; exact Blk.newAt _ _ rfl rfl
    rw [hWW]
    clear hWW
    have hM' := hM.below hb
    have hB2 := hM'.base.2
    have hrr := rdPP_threeA (ok := fun b => b < WW.heap.size) kr ⟨rfl, by decide, hM'.ra.mono fun _ h => Nat.lt_of_lt_of_le h hB2⟩ ⟨rfl, by decide, hM'.rb.mono fun _ h => Nat.lt_of_lt_of_le h hB2⟩ ⟨rfl, by decide, (rdP_headA (hM'.ra.mono fun _ h => Nat.lt_of_lt_of_le h hB2))⟩ (by omega)
    refine (parts_any (some ⟨W.heap.size, 0, none⟩) 3 finL _ hrr finL_few.1).mono ?_
    rintro e w' ⟨d, g, E, rfl, h1, h2, h3, h4, h5, h6⟩
    rw [hsz] at h1 h2
    exact ⟨d, g, E, rfl, h1, h2, by rw [h3]; decide, h4, by rw [h5, finL_parts], hM'.below h6, hb.trans (h6.mono hb.size)⟩
  clear hM1 hga hgb hB
  go_upto_region 5 with (first
    | (go_at_call 16; refine HFO.out.mono ?_; rintro e W2 ⟨rfl, hb2⟩; have HM2 := Lib.hid (HM1.out.below hb2); clear hb2)
    | (go_at_call 28; refine (HLG.out W2 HM2.out).mono ?_; rintro e W3 ⟨A3, c3, rfl, rfl⟩))
  generalize hW4 : World.alloc W2 _ = W4
  have HM4 : Hid (FinM w B ga gb W4) := Lib.hid (by rw [← hW4]; exact HM2.out.below ((Below.refl _ _).alloc (Nat.le_refl _) _))
  clear hW4 HM2 HLG HFO HM1
  go_upto_region 6 with fail
  generalize hW5 : World.alloc W4 _ = W5
  obtain ⟨nb, hnb⟩ : ∃ z, W4.heap.size = z := ⟨_, rfl⟩
  have HM5 : Hid (FinM w B ga gb W5 ∧ Blk W5 nb 3 #[.int .i64 0] ∧ w.heap.size < nb) := Lib.hid (by
    refine ⟨?_, ?_, ?_⟩
    · rw [← hW5]
      exact HM4.out.below ((Below.refl _ _).alloc (Nat.le_refl _) _)
    · rw [← hW5, ← hnb]
      exact Blk.newAt _ _ rfl rfl
    · have := HM4.out.base
      omega)
  rw [hnb]
  clear hW5 HM4 hnb
  go_wp2_with (go_at_call 29; refine (HPT.out W5 HM5.out.1).mono ?_; rintro e W6 ⟨d, g, E, rfl, hp1, hp2, hp3, hp4, hp5, hp6, hp7⟩; have HP := Lib.hid (And.intro hp1 (And.intro hp2 (And.intro hp3 (And.intro hp4 (And.intro hp5 (And.intro hp6 hp7)))))); clear hp1 hp2 hp3 hp4 hp5 hp6 hp7)
  clear hsl
  have HNB : Hid (nb < W5.heap.size) := Lib.hid HM5.out.2.1.lt
  refine (wpIn_wide (n := 0)).1 ?_
  refine wpIn_rangeFunc_D (gf := 44) (lb := #[.pointer (some ⟨d, 0, none⟩)]) rfl (enters_of Try.func44 (by kernel_rfl) rfl)
    (parts_seq d (W5.heap.size + 1) g E (fun b => b = nb) W6 HP.out.2.2.1 HP.out.2.2.2.1 (fun b hb => by have := HNB.out; have := HP.out.2.2.2.2.2.2.size; omega)) (fun _ => rfl)
    (fun pre W' => Blk W' nb 3 #[.int .i64 (pre.length : Int)] ∧ Blk W' w.heap.size 4 #[.bool false] ∧ SameP W6 d (W5.heap.size + 1) W' ∧ Below w.heap.size w W')
    (fun _ _ _ => False)
    (fun s A' B' hs hb => ?abI) (fun s W' hs => hs.2.2.1.inv HP.out.1) (fun _ _ _ _ hs _ => hs) ?start
    (fun x a' W' => ∃ Bx, W6.heap.size ≤ Bx ∧ Blk W' Bx 45 #[.int .i64 0, .int .i64 1, .int .i64 1] ∧ a' = { tmps := #[.pointer (some ⟨w.heap.size, 0, none⟩), .slice (some ⟨ga, 0, none⟩) 2 2, .slice (some ⟨gb, 0, none⟩) 2 2, .int .i64 1, .bool true, .pointer (some ⟨nb, 0, none⟩), .pointer (some ⟨Bx, 0, none⟩), .slice (some ⟨w.heap.size + 1, 0, none⟩) 1 1, .slice (some ⟨w.heap.size + 1, 0, none⟩) 1 1, .slice (some ⟨w.heap.size + 1 + 1, 0, none⟩) 1 1, .slice (some ⟨w.heap.size + 1 + 1, 0, none⟩) 1 1, .slice (some ⟨ga, 0, none⟩) 2 2, .slice (some ⟨ga + 1, 0, none⟩) 1 1, .slice (some ⟨ga + 1, 0, none⟩) 1 1, .slice (some ⟨ga + 1 + 1, 0, none⟩) 1 1, .slice (some ⟨ga + 1 + 1, 0, none⟩) 1 1, .slice (some ⟨gb, 0, none⟩) 2 2, .tuple #[.int .i64 1, .bool true], .slice (some ⟨ga, 0, none⟩) 2 2, .slice (some ⟨gb, 0, none⟩) 2 2, .tuple #[.int .i64 1, .bool true], .int .i64 1, .bool true, .bool true, .bool false, .bool false, .int .i64 1, .bool false, .bool false, .bool false, .slice (some ⟨ga, 0, none⟩) 2 2, .slice (some ⟨ga, 0, none⟩) 1 2, .slice (some ⟨gb, 0, none⟩) 2 2, .slice (some ⟨ga, 0, none⟩) 2 2, .slice (some ⟨W2.heap.size, 0, none⟩) 3 3, .slice A3 2 c3, .int .i64 2, .bool false, .bool false, .slice (some ⟨ga, 0, none⟩) 2 2, .slice (some ⟨gb, 0, none⟩) 2 2, .slice (some ⟨ga, 0, none⟩) 2 2, .slice (some ⟨ga, 0, none⟩) 1 2, .slice (some ⟨W5.heap.size, 0, none⟩) 3 3, .func (.func 44) #[] #[.pointer (some ⟨d, 0, none⟩)], .agg #[.int .i64 0, .int .i64 1, .int .i64 1], undef, undef, undef, undef, undef, undef, undef], defers := [] })
    (fun x a' W' l o o' _ h1 h2 h3 => by
      obtain ⟨Bx, q1, q2, q3⟩ := h3
      exact ⟨Bx, q1, q2.putObj o' h1 h2, q3⟩) ?assign ?body ?done ?stop
  case abI =>
    have h6 := HP.out.2.2.2.2.2.2.size
    have h5 := HNB.out
    have h7 := HM5.out.2.2
    exact ⟨hs.1.below hb (by omega), hs.2.1.below hb (by omega), hs.2.2.1.below hb, hs.2.2.2.trans (hb.mono (by omega))⟩
  case start =>
    exact ⟨HM5.out.2.1.below HP.out.2.2.2.2.2.2 HNB.out, HP.out.2.2.2.2.2.1.kb, fun b o ho _ _ => ho, HP.out.2.2.2.2.2.1.old⟩
  case assign =>
    intro l pre x W' K hlt hpre hi hK
    rw [HP.out.2.2.2.2.1] at hpre
    obtain ⟨rfl, rfl⟩ := only_one hpre
    have HI := Lib.hid hi
    have HSZ := Lib.hid hlt
    clear hi hlt hpre
    simp only [encT]
    gi_wp2
    have hbel : Below W'.heap.size W' (W'.alloc (.cells #[.int .i64 0, .int .i64 1, .int .i64 1] 45)) := (Below.refl _ _).alloc (Nat.le_refl _) _
    have hi := HI.out
    exact hK _ _ (keepsFrom_of_below hbel) (.of_below hbel) ⟨hi.1.below hbel hi.1.lt, hi.2.1.below hbel hi.2.1.lt, hi.2.2.1.below (hbel.mono (by have := HSZ.out; omega)), hi.2.2.2.trans (hbel.mono hi.2.2.2.size)⟩ ⟨W'.heap.size, by have := HSZ.out; omega, Blk.newAt _ _ rfl rfl, rfl⟩
  case body =>
    rintro l pre x a' W' hl hlt hpre hi ⟨Bx, hBx, hBk, rfl⟩
    rw [HP.out.2.2.2.2.1] at hpre
    obtain ⟨rfl, rfl⟩ := only_one hpre
    have HI := Lib.hid hi
    have HBK := Lib.hid hBk
    have hne := neq_part
    have cn : W'.cell? ⟨nb, 0, none⟩ = some (.int .i64 0) := by rw [hi.1.cell]; rfl
    have fn : W'.frozen? ⟨nb, 0, none⟩ = false := hi.1.frozen 0
    clear hi hBk hpre hBx
    gi_wp2_with (first
      | (guard_target = wpListIn _ _ _ _ _ (Oper.mk _ (.load 45 _) _ _ _ _ :: _) _ _; refine wpListIn_load_arr (fun _ => trivial) rfl 45 _ rfl Bx rfl 45 _ _ HBK.out Try.underlying45 rfl (by kernel_rfl) ?_))
    have hi := HI.out
    have hk : Keep (fun b => b = nb) W' (W'.setCell ⟨nb, 0, none⟩ (.int .i64 1)) := .setCell _ _ _ rfl
    have hnb := HNB.out
    have hnw := HM5.out.2.2
    have hd := HP.out.2.1
    refine ⟨keepsFrom_row hi.1 (by simp [World.setCell]) (fun b hb => Below.heap_setCell _ _ _ _ hb), hk, (hi.1.store 0 _).same rfl, hi.2.1.kept hk (by omega), hi.2.2.1.kept hk (by omega) (by omega), hi.2.2.2.setCell (by simp; omega) _⟩
  case done =>
    rintro D Wd hD hi hK
    have cn : Wd.cell? ⟨nb, 0, none⟩ = some (.int .i64 1) := by rw [hi.1.cell, HP.out.2.2.2.2.1]; rfl
    have c0 : Wd.cell? ⟨w.heap.size, 0, none⟩ = some (.bool false) := by rw [hi.2.1.cell]; rfl
    have f0 : Wd.frozen? ⟨w.heap.size, 0, none⟩ = false := hi.2.1.frozen 0
    have HI := Lib.hid hi
    have HK := Lib.hid hK
    have HD := Lib.hid hD
    clear hi hK hD
    go_wp2
    have hi := HI.out
    have hnw := HM5.out.2.2
    have hnb := HNB.out
    have h6 := HP.out.2.2.2.2.2.2.size
    have hD0 : D ≠ w.heap.size := by have := HD.out; omega
    have hK2 : (Wd.setCell ⟨w.heap.size, 0, none⟩ (.bool true)).heap[D]? = some (.deferred (some [])) := (Below.heap_setCell _ _ _ _ hD0).trans HK.out
    refine ⟨by simp, .inl ⟨_, _, rfl, run_takeDeferred hK2, ?_⟩⟩
    have kb := (hi.2.1.store 0 (.bool true)).putObj (.deferred none) hK2 rfl
    refine ⟨.bool true, results_cell1 rfl _ _ ⟨w.heap.size, 0, none⟩ _ rfl (loadVar_oneA Try.underlying4 rfl (by rw [kb.cell]; rfl)), rfl, below_putObj (hi.2.2.2.setCell (by simp) _) _ (by have := HD.out; omega)⟩
  case stop =>
    rintro D c pre W' _ _ _ h _
    exact h.elim
end Go.Proofs.Ytjdgcciemlfapaa
