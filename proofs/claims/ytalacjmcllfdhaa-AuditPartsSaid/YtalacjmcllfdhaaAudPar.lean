/-
  Audit: the iterator over where lists part. No condition.
-/
import Derived.Test.YtalacjmcllfdhaaAudSeq
import Derived.Scope
namespace Go.Proofs.Ytalacjmcllfdhaa
open Go Go.RowKit Go.Maps
attribute [local go_sem] Oper.semAt_some

def encT (p : Nat × Nat × Nat) : Array Value := #[.agg #[.int .i64 (p.1 : Int), .int .i64 (p.2.1 : Int), .int .i64 (p.2.2 : Int)]]
/-- What the iterator reads. -/
def PartInv (d B g : Nat) (E : List (List Nat)) (W : World) : Prop := Blk W d 44 #[.slice (some ⟨g, 0, none⟩) E.length E.length] ∧ EntAt W B g E
theorem PartInv.same {W W' : World} {d B g : Nat} {E : List (List Nat)} (h : PartInv d B g E W) (hk : ∀ b o, W.heap[b]? = some o → o.isCells = true → (b = d ∨ B ≤ b) → W'.heap[b]? = some o) : PartInv d B g E W' := by
  obtain ⟨h1, h2, f, h3, h4⟩ := h
  refine ⟨hk _ _ h1 rfl (.inl rfl), h2, f, hk _ _ h3 rfl (.inr h2), fun j hj => (h4 j hj).kept fun a x ha hx => ?_⟩
  obtain ⟨o, ho, hc⟩ := cells_of_cell hx
  exact (World.cell?_of_block ((hk _ _ ho hc (.inr ha)).trans ho.symm)).trans hx
theorem PartInv.below {W W' : World} {d B g : Nat} {E : List (List Nat)} (h : PartInv d B g E W) (hb : Below W.heap.size W W') : PartInv d B g E W' :=
  h.same fun b _o ho _ _ => (hb.block b (Array.getElem?_eq_some_iff.1 ho).1).trans ho
set_option maxRecDepth 100000 in
set_option maxHeartbeats 60000000 in
theorem parts_seq (d B g : Nat) (E : List (List Nat)) (own : Nat → Prop) (w : World) (hn : E.length ≤ 8) (hm : ∀ l ∈ E, l.length ≤ 12) (hown : ∀ b, own b → b < w.heap.size) :
    SeqD Try.prog 15 #[.pointer (some ⟨d, 0, none⟩)] encT own (PartInv d B g E) (partsL E) w := by
  intro y J Jx W hW hJ hJx hInv hY h0
  have HOWN : Hid (∀ b, own b → b < W.heap.size) := Lib.hid fun b hb => Nat.lt_of_lt_of_le (hown b hb) hW.size
  have hI0 := hInv _ _ h0
  obtain ⟨n, hnn⟩ : ∃ z, E.length = z := ⟨_, rfl⟩
  have hn8 : n ≤ 8 := by omega
  have HN := Lib.hid hnn
  have HM := Lib.hid hm
  have HJ := Lib.hid hJ
  have HJX := Lib.hid hJx
  have HINV := Lib.hid hInv
  have HY := Lib.hid hY
  have HJ0 := Lib.hid h0
  obtain ⟨WA, hWA⟩ : ∃ z, W.alloc (.cells #[.func (.yield y) #[] #[]] 46) = z := ⟨_, rfl⟩
  have hbA : Below W.heap.size W WA := by rw [← hWA]; exact (Below.refl _ _).alloc (Nat.le_refl _) _
  have k2 : Blk WA W.heap.size 46 #[.func (.yield y) #[] #[]] := by rw [← hWA]; exact Blk.newAt _ _ rfl rfl
  have hszA : WA.heap.size = W.heap.size + 1 := by rw [← hWA]; simp
  have cb1 : WA.cell? ⟨d, 0, none⟩ = some (.slice (some ⟨g, 0, none⟩) n n) := by rw [(hI0.below hbA).1.cell, hnn]; rfl
  have HA := Lib.hid (And.intro hWA (And.intro hbA (And.intro k2 hszA)))
  clear hW hJ hJx hY h0 hInv hown hI0 hnn hm hn hWA hbA k2 hszA
  refine callsIn_of_wp_marks Try.func15 rfl trivial ?_ rfl
  simp only [Try.ntmps15, List.size_toArray, List.length_cons, List.length_nil, Nat.reduceAdd, Nat.reduceSub, Array.replicate_succ, Array.replicate_zero, List.push_toArray, List.append_toArray, List.nil_append, List.cons_append]
  gi_wp2_with fail
  rw [HA.out.1]
  refine wpIn_wide.2 (wp_scope_straight ((wpIn_wide (n := 0)).1 ?_))
  gi_wp2_with fail
  refine wpIn_label ?_
  gi_wp2_with (first
    | (refine ⟨trivial, rfl, ?_⟩; gi_at_call 16; refine (callsIn_wide.2 (pairs_any (n : Int) WA)).mono ?_; rintro e W01 ⟨rfl, kp, hb1⟩; have HP := Lib.hid (And.intro kp hb1); clear kp hb1 cb1))
  refine wpIn_rangeFunc_D (gf := 19) (lb := #[.pointer (some ⟨WA.heap.size, 0, none⟩)]) rfl (enters_of Try.func19 (by kernel_rfl) rfl)
    (pairs_seq WA.heap.size n own W01 (by omega)) (fun _ => rfl)
    (fun pre W' => J (partsOf E pre) W' ∧ Blk W' W.heap.size 46 #[.func (.yield y) #[] #[]] ∧ Blk W' WA.heap.size 3 #[.int .i64 (n : Int)] ∧ W01.heap.size ≤ W'.heap.size)
    (fun c _ W' => c = .ret ∧ ∃ l, l <+: partsL E ∧ l ≠ [] ∧ Jx l W')
    (fun s A' B' hs hb => ?abI) (fun s W' hs => hs.2.2.1) (fun c s A' B' hs hb => ?abX) ?start
    (fun x a' W' => a' = { tmps := #[.func (.yield y) #[] #[], .pointer (some ⟨d, 0, none⟩), .pointer (some ⟨W.heap.size, 0, none⟩), .int .i64 (x.1 : Int), .int .i64 (x.2 : Int), undef, .slice (some ⟨g, 0, none⟩) n n, .int .i64 (n : Int), .func (.func 19) #[] #[.pointer (some ⟨WA.heap.size, 0, none⟩)], .int .i64 (x.1 : Int), .int .i64 (x.2 : Int), undef, undef, undef, undef, undef, undef, undef, undef, undef, undef, undef, undef, undef, undef, undef, undef, undef, undef, undef, undef, undef, undef, undef, undef, undef, undef, undef, undef, undef, undef, undef, undef, undef, undef, undef, undef, undef], defers := [] })
    (fun x a' W' l o o' _ _ _ h3 => h3) ?assign ?body ?done ?stop
  case abI =>
    have hs0 := HP.out.2.size
    have hs1 := HA.out.2.2.2
    have hk := HP.out.1.lt
    exact ⟨HJ.out _ _ _ hs.1 (hb.mono (by omega)), hs.2.1.below hb (by omega), hs.2.2.1.below hb hk, Nat.le_trans hs.2.2.2 hb.size⟩
  case abX =>
    obtain ⟨h1, l, h2, h3, h4⟩ := hs
    have hs0 := HP.out.2.size
    have hs1 := HA.out.2.2.2
    exact ⟨h1, l, h2, h3, HJX.out _ _ _ h4 (hb.mono (by omega))⟩
  case start =>
    have hs1 := HA.out.2.2.2
    exact ⟨HJ.out _ _ _ HJ0.out (HA.out.2.1.trans (HP.out.2.mono (by omega))), HA.out.2.2.1.below HP.out.2 HA.out.2.2.1.lt, HP.out.1, Nat.le_refl _⟩
  case assign =>
    intro l pre x W' K hlt hpre hi hK
    have HI := Lib.hid hi
    clear hi hlt
    simp only [encP]
    gi_wp2
    exact hK _ _ (keepsFrom_of_below (Below.refl _ _)) (Keep.refl _ _) HI.out rfl
  case body =>
    rintro l pre x a' Wb hl hlt hpre hi rfl
    obtain ⟨a, b⟩ := x
    have hx := mem_pairs (hpre.subset (show (a, b) ∈ pre ++ [(a, b)] by simp))
    dsimp only at hx ⊢
    obtain ⟨hab, hbn⟩ := hx
    have hai : (a : Int) < (n : Int) := by omega
    have hbi : (b : Int) < (n : Int) := by omega
    have HI := Lib.hid hi
    obtain ⟨hd, hBg, f, hg, hrows⟩ := HINV.out _ _ hi.1
    rw [HN.out] at hd hg hrows
    obtain ⟨Aa, ca, hfa, hel1⟩ := (hrows a (by omega)).at
    obtain ⟨Ab, cb, hfb, hel2⟩ := (hrows b (by omega)).at
    have hm1 := HM.out _ (getD_mem [] (show a < E.length by rw [HN.out]; omega))
    have hm2 := HM.out _ (getD_mem [] (show b < E.length by rw [HN.out]; omega))
    obtain ⟨l1, hl1⟩ : ∃ z, E.getD a [] = z := ⟨_, rfl⟩
    obtain ⟨l2, hl2⟩ : ∃ z, E.getD b [] = z := ⟨_, rfl⟩
    rw [hl1] at hfa hel1 hm1
    rw [hl2] at hfb hel2 hm2
    have HL12 := Lib.hid (And.intro hl1 hl2)
    obtain ⟨la, hla⟩ : ∃ z, l1.length = z := ⟨_, rfl⟩
    obtain ⟨lb, hlb⟩ : ∃ z, l2.length = z := ⟨_, rfl⟩
    rw [hla] at hfa hm1
    rw [hlb] at hfb hm2
    have HLA := Lib.hid hla
    have HLB := Lib.hid hlb
    have HEL1 := Lib.hid hel1
    have HEL2 := Lib.hid hel2
    have HC1 : Hid (∀ W'', Below Wb.heap.size Wb W'' → W''.cell? ⟨d, 0, none⟩ = some (.slice (some ⟨g, 0, none⟩) n n)) := Lib.hid fun W'' hb => by rw [(hd.below hb hd.lt).cell]; rfl
    have HR1 : Hid (∀ W'', Below Wb.heap.size Wb W'' → W''.cell? ⟨g, a, none⟩ = some (.slice Aa la ca)) := Lib.hid fun W'' hb => by rw [(hg.below hb hg.lt).cell, arr_get, if_pos (by omega), hfa]
    have HR2 : Hid (∀ W'', Below Wb.heap.size Wb W'' → W''.cell? ⟨g, b, none⟩ = some (.slice Ab lb cb)) := Lib.hid fun W'' hb => by rw [(hg.below hb hg.lt).cell, arr_get, if_pos (by omega), hfb]
    have HPP := Lib.hid (partsOf_pre E hpre)
    have HLT := Lib.hid hlt
    have hla0 : (0 : Int) ≤ (la : Int) := by omega
    have hlb0 : (0 : Int) ≤ (lb : Int) := by omega
    obtain ⟨mn, hmn⟩ : ∃ z, min la lb = z := ⟨_, rfl⟩
    have hmn1 : (if (lb : Int) < (la : Int) then (lb : Int) else (la : Int)) = (mn : Int) := by split <;> omega
    have hmn2 : min (la : Int) (lb : Int) = (mn : Int) := by omega
    have HMN := Lib.hid hmn
    have hbX : Below Wb.heap.size Wb Wb.drew := (Below.refl _ _).drew
    clear hi hd hg hrows hBg hfa hfb hel1 hel2 hl1 hl2 hla hlb hpre hlt hmn
    gi_wp2
    refine region_round (S := fun W'' => Below Wb.heap.size Wb W'') (by kernel_rfl) (fun ⟨_, _, h⟩ => h) (by kernel_rfl) ?_ (fun hHeld => ?_)
    · exact hbX
    refine wpAnyH_take (i := 0) (oi := ⟨some 11, _, _, _, _, _⟩) (v := (.slice (some ⟨g, 0, none⟩) n n)) rfl (by kernel_rfl) (by kernel_rfl) (by kernel_rfl) (fun _ _ _ h => h) (Or.inl ⟨by rfl, fun W' hS => by have hcv := HC1.out W' hS; go_simp⟩) (by assumption) ?_
    try simp only [Act.put, List.setIfInBounds_toArray, List.set_cons_zero, List.set_cons_succ]
    refine wpAnyH_take (i := 1) (oi := ⟨some 12, _, _, _, _, _⟩) (v := ?_) rfl (by kernel_rfl) (by kernel_rfl) (by kernel_rfl) (fun _ _ _ h => h) (Or.inl ⟨by rfl, ?_⟩) (by assumption) ?_
    rotate_left
    · intro w hSw; (try dsimp only at hSw); go_simp; try (with_reducible rfl)
    rotate_left 0
    try simp only [Act.put, List.setIfInBounds_toArray, List.set_cons_zero, List.set_cons_succ]
    refine wpAnyH_take (i := 2) (oi := ⟨some 13, _, _, _, _, _⟩) (v := ?_) rfl (by kernel_rfl) (by kernel_rfl) (by kernel_rfl) (fun _ _ _ h => h) (Or.inl ⟨by rfl, ?_⟩) (by assumption) ?_
    rotate_left
    · intro w hSw; (try dsimp only at hSw); go_simp; try (with_reducible rfl)
    rotate_left 0
    try simp only [Act.put, List.setIfInBounds_toArray, List.set_cons_zero, List.set_cons_succ]
    refine wpAnyH_take (i := 3) (oi := ⟨some 14, _, _, _, _, _⟩) (v := (.slice Aa la ca)) rfl (by kernel_rfl) (by kernel_rfl) (by kernel_rfl) (fun _ _ _ h => h) (Or.inl ⟨by rfl, fun W' hS => by have hcv := HR1.out W' hS; go_simp⟩) (by assumption) ?_
    try simp only [Act.put, List.setIfInBounds_toArray, List.set_cons_zero, List.set_cons_succ]
    refine wpAnyH_take (i := 4) (oi := ⟨some 15, _, _, _, _, _⟩) (v := ?_) rfl (by kernel_rfl) (by kernel_rfl) (by kernel_rfl) (fun _ _ _ h => h) (Or.inl ⟨by rfl, ?_⟩) (by assumption) ?_
    rotate_left
    · intro w hSw; (try dsimp only at hSw); go_simp; try (with_reducible rfl)
    rotate_left 0
    try simp only [Act.put, List.setIfInBounds_toArray, List.set_cons_zero, List.set_cons_succ]
    refine wpAnyH_take (i := 5) (oi := ⟨some 16, _, _, _, _, _⟩) (v := (.slice (some ⟨g, 0, none⟩) n n)) rfl (by kernel_rfl) (by kernel_rfl) (by kernel_rfl) (fun _ _ _ h => h) (Or.inl ⟨by rfl, fun W' hS => by have hcv := HC1.out W' hS; go_simp⟩) (by assumption) ?_
    try simp only [Act.put, List.setIfInBounds_toArray, List.set_cons_zero, List.set_cons_succ]
    refine wpAnyH_take (i := 6) (oi := ⟨some 17, _, _, _, _, _⟩) (v := ?_) rfl (by kernel_rfl) (by kernel_rfl) (by kernel_rfl) (fun _ _ _ h => h) (Or.inl ⟨by rfl, ?_⟩) (by assumption) ?_
    rotate_left
    · intro w hSw; (try dsimp only at hSw); go_simp; try (with_reducible rfl)
    rotate_left 0
    try simp only [Act.put, List.setIfInBounds_toArray, List.set_cons_zero, List.set_cons_succ]
    refine wpAnyH_take (i := 7) (oi := ⟨some 18, _, _, _, _, _⟩) (v := ?_) rfl (by kernel_rfl) (by kernel_rfl) (by kernel_rfl) (fun _ _ _ h => h) (Or.inl ⟨by rfl, ?_⟩) (by assumption) ?_
    rotate_left
    · intro w hSw; (try dsimp only at hSw); go_simp; try (with_reducible rfl)
    rotate_left 0
    try simp only [Act.put, List.setIfInBounds_toArray, List.set_cons_zero, List.set_cons_succ]
    refine wpAnyH_take (i := 8) (oi := ⟨some 19, _, _, _, _, _⟩) (v := (.slice Ab lb cb)) rfl (by kernel_rfl) (by kernel_rfl) (by kernel_rfl) (fun _ _ _ h => h) (Or.inl ⟨by rfl, fun W' hS => by have hcv := HR2.out W' hS; go_simp⟩) (by assumption) ?_
    try simp only [Act.put, List.setIfInBounds_toArray, List.set_cons_zero, List.set_cons_succ]
    refine wpAnyH_take (i := 9) (oi := ⟨some 20, _, _, _, _, _⟩) (v := ?_) rfl (by kernel_rfl) (by kernel_rfl) (by kernel_rfl) (fun _ _ _ h => h) (Or.inl ⟨by rfl, ?_⟩) (by assumption) ?_
    rotate_left
    · intro w hSw; (try dsimp only at hSw); go_simp; try (with_reducible rfl)
    rotate_left 0
    try simp only [Act.put, List.setIfInBounds_toArray, List.set_cons_zero, List.set_cons_succ]
    refine wpAnyH_take (i := 10) (oi := ⟨some 21, _, _, _, _, _⟩) (v := ?_) rfl (by kernel_rfl) (by kernel_rfl) (by kernel_rfl) (fun _ _ _ h => h) (Or.inl ⟨by rfl, ?_⟩) (by assumption) ?_
    rotate_left
    · intro w hSw; (try dsimp only at hSw); go_simp; try (with_reducible rfl)
    rotate_left 0
    try simp only [Act.put, List.setIfInBounds_toArray, List.set_cons_zero, List.set_cons_succ]
    refine wpAnyH_take (i := 11) (oi := ⟨some 22, _, _, _, _, _⟩) (v := ?_) rfl (by kernel_rfl) (by kernel_rfl) (by kernel_rfl) (fun _ _ _ h => h) (Or.inl ⟨by rfl, ?_⟩) (by assumption) ?_
    rotate_left
    · intro w hSw; (try dsimp only at hSw); go_simp; try (with_reducible rfl)
    rotate_left 0
    try simp only [Act.put, List.setIfInBounds_toArray, List.set_cons_zero, List.set_cons_succ]
    refine wpAnyH_done (by kernel_rfl) ?_ _
    have HX := Lib.hid hbX
    clear hbX hmn1 hmn2
    gi_wp2
    gi_loopw [22] (fun i wr => ∃ q : Nat, q ≤ mn ∧ i = .int .i64 (q : Int) ∧ Below Wb.heap.size Wb wr ∧ ∀ j, j < q → l1[j]? = l2[j]?) (fun i _ => mn - (intOf i).toNat)
    case atStart => exact ⟨0, Nat.zero_le _, rfl, HX.out, fun j hj => by omega⟩
    case round =>
      clear HX
      obtain ⟨q, hq0, rfl, hbq, hag⟩ := hrel
      obtain ⟨Wq, hWq⟩ : ∃ z, z = wr := ⟨_, rfl⟩
      subst hWq
      have HBQ := Lib.hid hbq
      have HAG := Lib.hid hag
      clear hbq hag
      by_cases hqm : q < mn
      · have hqi : (q : Int) < (mn : Int) := by omega
        have hqa : q < la := by have := HMN.out; omega
        have hqb : q < lb := by have := HMN.out; omega
        have hqai : (q : Int) < (la : Int) := by omega
        have hqbi : (q : Int) < (lb : Int) := by omega
        have hga := getD_at (l := l1) 0 (show q < l1.length by rw [HLA.out]; exact hqa)
        have hgb := getD_at (l := l2) 0 (show q < l2.length by rw [HLB.out]; exact hqb)
        obtain ⟨x, hx⟩ : ∃ z, l1.getD q 0 = z := ⟨_, rfl⟩
        obtain ⟨y', hy'⟩ : ∃ z, l2.getD q 0 = z := ⟨_, rfl⟩
        rw [hx] at hga
        rw [hy'] at hgb
        obtain ⟨ad1, rfl, had1, hcx⟩ := HEL1.out q x hga
        obtain ⟨ad2, rfl, had2, hcy⟩ := HEL2.out q y' hgb
        have hl1' : ad1.block < Wb.heap.size := by have := block_lt_of_cell hcx; rwa [block_add] at this
        have hl2' : ad2.block < Wb.heap.size := by have := block_lt_of_cell hcy; rwa [block_add] at this
        have HQ1 := Lib.hid hga
        have HQ2 := Lib.hid hgb
        have HC1q : Hid (∀ W'', Below Wq.heap.size Wq W'' → W''.cell? ⟨d, 0, none⟩ = some (.slice (some ⟨g, 0, none⟩) n n)) := Lib.hid fun W'' hb => HC1.out W'' (HBQ.out.trans (hb.mono HBQ.out.size))
        have HR1q : Hid (∀ W'', Below Wq.heap.size Wq W'' → W''.cell? ⟨g, a, none⟩ = some (.slice (some ad1) la ca)) := Lib.hid fun W'' hb => HR1.out W'' (HBQ.out.trans (hb.mono HBQ.out.size))
        have HR2q : Hid (∀ W'', Below Wq.heap.size Wq W'' → W''.cell? ⟨g, b, none⟩ = some (.slice (some ad2) lb cb)) := Lib.hid fun W'' hb => HR2.out W'' (HBQ.out.trans (hb.mono HBQ.out.size))
        have HX1 : Hid (∀ W'', Below Wq.heap.size Wq W'' → W''.cell? (ad1.add q) = some (.int .i64 (x : Int))) := Lib.hid fun W'' hb => ((HBQ.out.trans (hb.mono HBQ.out.size)).cell (p := ad1.add q) (by rw [block_add]; exact hl1')).trans hcx
        have HX2 : Hid (∀ W'', Below Wq.heap.size Wq W'' → W''.cell? (ad2.add q) = some (.int .i64 (y' : Int))) := Lib.hid fun W'' hb => ((HBQ.out.trans (hb.mono HBQ.out.size)).cell (p := ad2.add q) (by rw [block_add]; exact hl2')).trans hcy
        have hbX : Below Wq.heap.size Wq Wq.drew := (Below.refl _ _).drew
        clear hga hgb hx hy' hcx hcy had1 had2 hl1' hl2'
        gi_wp2
        by_cases hxy : x = y'
        · have hxy2 : ((x : Int) == (y' : Int)) = true := by rw [beq_iff_eq, hxy]
          have HXY := Lib.hid hxy
          clear hxy
          refine region_round (S := fun W'' => Below Wq.heap.size Wq W'') (by kernel_rfl) (fun ⟨_, _, h⟩ => h) (by kernel_rfl) ?_ (fun hHeld => ?_)
          · exact hbX
          refine wpAnyH_take (i := 0) (oi := ⟨some 25, _, _, _, _, _⟩) (v := (.slice (some ⟨g, 0, none⟩) n n)) rfl (by kernel_rfl) (by kernel_rfl) (by kernel_rfl) (fun _ _ _ h => h) (Or.inl ⟨by rfl, fun W' hS => by have hcv := HC1q.out W' hS; go_simp⟩) (by assumption) ?_
          try simp only [Act.put, List.setIfInBounds_toArray, List.set_cons_zero, List.set_cons_succ]
          refine wpAnyH_take (i := 1) (oi := ⟨some 26, _, _, _, _, _⟩) (v := ?_) rfl (by kernel_rfl) (by kernel_rfl) (by kernel_rfl) (fun _ _ _ h => h) (Or.inl ⟨by rfl, ?_⟩) (by assumption) ?_
          rotate_left
          · intro w hSw; (try dsimp only at hSw); go_simp; try (with_reducible rfl)
          rotate_left 0
          try simp only [Act.put, List.setIfInBounds_toArray, List.set_cons_zero, List.set_cons_succ]
          refine wpAnyH_take (i := 2) (oi := ⟨some 27, _, _, _, _, _⟩) (v := ?_) rfl (by kernel_rfl) (by kernel_rfl) (by kernel_rfl) (fun _ _ _ h => h) (Or.inl ⟨by rfl, ?_⟩) (by assumption) ?_
          rotate_left
          · intro w hSw; (try dsimp only at hSw); go_simp; try (with_reducible rfl)
          rotate_left 0
          try simp only [Act.put, List.setIfInBounds_toArray, List.set_cons_zero, List.set_cons_succ]
          refine wpAnyH_take (i := 3) (oi := ⟨some 28, _, _, _, _, _⟩) (v := (.slice (some ad1) la ca)) rfl (by kernel_rfl) (by kernel_rfl) (by kernel_rfl) (fun _ _ _ h => h) (Or.inl ⟨by rfl, fun W' hS => by have hcv := HR1q.out W' hS; go_simp⟩) (by assumption) ?_
          try simp only [Act.put, List.setIfInBounds_toArray, List.set_cons_zero, List.set_cons_succ]
          refine wpAnyH_take (i := 4) (oi := ⟨some 29, _, _, _, _, _⟩) (v := ?_) rfl (by kernel_rfl) (by kernel_rfl) (by kernel_rfl) (fun _ _ _ h => h) (Or.inl ⟨by rfl, ?_⟩) (by assumption) ?_
          rotate_left
          · intro w hSw; (try dsimp only at hSw); go_simp; try (with_reducible rfl)
          rotate_left 0
          try simp only [Act.put, List.setIfInBounds_toArray, List.set_cons_zero, List.set_cons_succ]
          refine wpAnyH_take (i := 5) (oi := ⟨some 30, _, _, _, _, _⟩) (v := ?_) rfl (by kernel_rfl) (by kernel_rfl) (by kernel_rfl) (fun _ _ _ h => h) (Or.inl ⟨by rfl, ?_⟩) (by assumption) ?_
          rotate_left
          · intro w hSw; (try dsimp only at hSw); go_simp; try (with_reducible rfl)
          rotate_left 0
          try simp only [Act.put, List.setIfInBounds_toArray, List.set_cons_zero, List.set_cons_succ]
          refine wpAnyH_take (i := 6) (oi := ⟨some 31, _, _, _, _, _⟩) (v := (.int .i64 (x : Int))) rfl (by kernel_rfl) (by kernel_rfl) (by kernel_rfl) (fun _ _ _ h => h) (Or.inl ⟨by rfl, fun W' hS => by have hcv := HX1.out W' hS; go_simp⟩) (by assumption) ?_
          try simp only [Act.put, List.setIfInBounds_toArray, List.set_cons_zero, List.set_cons_succ]
          refine wpAnyH_take (i := 7) (oi := ⟨some 32, _, _, _, _, _⟩) (v := (.slice (some ⟨g, 0, none⟩) n n)) rfl (by kernel_rfl) (by kernel_rfl) (by kernel_rfl) (fun _ _ _ h => h) (Or.inl ⟨by rfl, fun W' hS => by have hcv := HC1q.out W' hS; go_simp⟩) (by assumption) ?_
          try simp only [Act.put, List.setIfInBounds_toArray, List.set_cons_zero, List.set_cons_succ]
          refine wpAnyH_take (i := 8) (oi := ⟨some 33, _, _, _, _, _⟩) (v := ?_) rfl (by kernel_rfl) (by kernel_rfl) (by kernel_rfl) (fun _ _ _ h => h) (Or.inl ⟨by rfl, ?_⟩) (by assumption) ?_
          rotate_left
          · intro w hSw; (try dsimp only at hSw); go_simp; try (with_reducible rfl)
          rotate_left 0
          try simp only [Act.put, List.setIfInBounds_toArray, List.set_cons_zero, List.set_cons_succ]
          refine wpAnyH_take (i := 9) (oi := ⟨some 34, _, _, _, _, _⟩) (v := ?_) rfl (by kernel_rfl) (by kernel_rfl) (by kernel_rfl) (fun _ _ _ h => h) (Or.inl ⟨by rfl, ?_⟩) (by assumption) ?_
          rotate_left
          · intro w hSw; (try dsimp only at hSw); go_simp; try (with_reducible rfl)
          rotate_left 0
          try simp only [Act.put, List.setIfInBounds_toArray, List.set_cons_zero, List.set_cons_succ]
          refine wpAnyH_take (i := 10) (oi := ⟨some 35, _, _, _, _, _⟩) (v := (.slice (some ad2) lb cb)) rfl (by kernel_rfl) (by kernel_rfl) (by kernel_rfl) (fun _ _ _ h => h) (Or.inl ⟨by rfl, fun W' hS => by have hcv := HR2q.out W' hS; go_simp⟩) (by assumption) ?_
          try simp only [Act.put, List.setIfInBounds_toArray, List.set_cons_zero, List.set_cons_succ]
          refine wpAnyH_take (i := 11) (oi := ⟨some 36, _, _, _, _, _⟩) (v := ?_) rfl (by kernel_rfl) (by kernel_rfl) (by kernel_rfl) (fun _ _ _ h => h) (Or.inl ⟨by rfl, ?_⟩) (by assumption) ?_
          rotate_left
          · intro w hSw; (try dsimp only at hSw); go_simp; try (with_reducible rfl)
          rotate_left 0
          try simp only [Act.put, List.setIfInBounds_toArray, List.set_cons_zero, List.set_cons_succ]
          refine wpAnyH_take (i := 12) (oi := ⟨some 37, _, _, _, _, _⟩) (v := ?_) rfl (by kernel_rfl) (by kernel_rfl) (by kernel_rfl) (fun _ _ _ h => h) (Or.inl ⟨by rfl, ?_⟩) (by assumption) ?_
          rotate_left
          · intro w hSw; (try dsimp only at hSw); go_simp; try (with_reducible rfl)
          rotate_left 0
          try simp only [Act.put, List.setIfInBounds_toArray, List.set_cons_zero, List.set_cons_succ]
          refine wpAnyH_take (i := 13) (oi := ⟨some 38, _, _, _, _, _⟩) (v := (.int .i64 (y' : Int))) rfl (by kernel_rfl) (by kernel_rfl) (by kernel_rfl) (fun _ _ _ h => h) (Or.inl ⟨by rfl, fun W' hS => by have hcv := HX2.out W' hS; go_simp⟩) (by assumption) ?_
          try simp only [Act.put, List.setIfInBounds_toArray, List.set_cons_zero, List.set_cons_succ]
          refine wpAnyH_take (i := 14) (oi := ⟨some 39, _, _, _, _, _⟩) (v := ?_) rfl (by kernel_rfl) (by kernel_rfl) (by kernel_rfl) (fun _ _ _ h => h) (Or.inl ⟨by rfl, ?_⟩) (by assumption) ?_
          rotate_left
          · intro w hSw; (try dsimp only at hSw); go_simp; try (with_reducible rfl)
          rotate_left 0
          try simp only [Act.put, List.setIfInBounds_toArray, List.set_cons_zero, List.set_cons_succ]
          refine wpAnyH_done (by kernel_rfl) ?_ _
          have HX := Lib.hid (HBQ.out.trans (hbX.mono HBQ.out.size))
          clear hbX
          gi_wp2
          refine ⟨⟨q + 1, by omega, by rfl, HX.out, fun j hj => ?_⟩, ?_⟩
          · by_cases e : j = q
            · rw [e, HQ1.out, HQ2.out, HXY.out]
            · exact HAG.out j (by omega)
          · simp only [intOf]
            omega
        · have hxy2 : ((x : Int) == (y' : Int)) = false := by rw [beq_eq_false_iff_ne]; omega
          have HXY := Lib.hid hxy
          clear hxy
          refine region_round (S := fun W'' => Below Wq.heap.size Wq W'') (by kernel_rfl) (fun ⟨_, _, h⟩ => h) (by kernel_rfl) ?_ (fun hHeld => ?_)
          · exact hbX
          refine wpAnyH_take (i := 0) (oi := ⟨some 25, _, _, _, _, _⟩) (v := (.slice (some ⟨g, 0, none⟩) n n)) rfl (by kernel_rfl) (by kernel_rfl) (by kernel_rfl) (fun _ _ _ h => h) (Or.inl ⟨by rfl, fun W' hS => by have hcv := HC1q.out W' hS; go_simp⟩) (by assumption) ?_
          try simp only [Act.put, List.setIfInBounds_toArray, List.set_cons_zero, List.set_cons_succ]
          refine wpAnyH_take (i := 1) (oi := ⟨some 26, _, _, _, _, _⟩) (v := ?_) rfl (by kernel_rfl) (by kernel_rfl) (by kernel_rfl) (fun _ _ _ h => h) (Or.inl ⟨by rfl, ?_⟩) (by assumption) ?_
          rotate_left
          · intro w hSw; (try dsimp only at hSw); go_simp; try (with_reducible rfl)
          rotate_left 0
          try simp only [Act.put, List.setIfInBounds_toArray, List.set_cons_zero, List.set_cons_succ]
          refine wpAnyH_take (i := 2) (oi := ⟨some 27, _, _, _, _, _⟩) (v := ?_) rfl (by kernel_rfl) (by kernel_rfl) (by kernel_rfl) (fun _ _ _ h => h) (Or.inl ⟨by rfl, ?_⟩) (by assumption) ?_
          rotate_left
          · intro w hSw; (try dsimp only at hSw); go_simp; try (with_reducible rfl)
          rotate_left 0
          try simp only [Act.put, List.setIfInBounds_toArray, List.set_cons_zero, List.set_cons_succ]
          refine wpAnyH_take (i := 3) (oi := ⟨some 28, _, _, _, _, _⟩) (v := (.slice (some ad1) la ca)) rfl (by kernel_rfl) (by kernel_rfl) (by kernel_rfl) (fun _ _ _ h => h) (Or.inl ⟨by rfl, fun W' hS => by have hcv := HR1q.out W' hS; go_simp⟩) (by assumption) ?_
          try simp only [Act.put, List.setIfInBounds_toArray, List.set_cons_zero, List.set_cons_succ]
          refine wpAnyH_take (i := 4) (oi := ⟨some 29, _, _, _, _, _⟩) (v := ?_) rfl (by kernel_rfl) (by kernel_rfl) (by kernel_rfl) (fun _ _ _ h => h) (Or.inl ⟨by rfl, ?_⟩) (by assumption) ?_
          rotate_left
          · intro w hSw; (try dsimp only at hSw); go_simp; try (with_reducible rfl)
          rotate_left 0
          try simp only [Act.put, List.setIfInBounds_toArray, List.set_cons_zero, List.set_cons_succ]
          refine wpAnyH_take (i := 5) (oi := ⟨some 30, _, _, _, _, _⟩) (v := ?_) rfl (by kernel_rfl) (by kernel_rfl) (by kernel_rfl) (fun _ _ _ h => h) (Or.inl ⟨by rfl, ?_⟩) (by assumption) ?_
          rotate_left
          · intro w hSw; (try dsimp only at hSw); go_simp; try (with_reducible rfl)
          rotate_left 0
          try simp only [Act.put, List.setIfInBounds_toArray, List.set_cons_zero, List.set_cons_succ]
          refine wpAnyH_take (i := 6) (oi := ⟨some 31, _, _, _, _, _⟩) (v := (.int .i64 (x : Int))) rfl (by kernel_rfl) (by kernel_rfl) (by kernel_rfl) (fun _ _ _ h => h) (Or.inl ⟨by rfl, fun W' hS => by have hcv := HX1.out W' hS; go_simp⟩) (by assumption) ?_
          try simp only [Act.put, List.setIfInBounds_toArray, List.set_cons_zero, List.set_cons_succ]
          refine wpAnyH_take (i := 7) (oi := ⟨some 32, _, _, _, _, _⟩) (v := (.slice (some ⟨g, 0, none⟩) n n)) rfl (by kernel_rfl) (by kernel_rfl) (by kernel_rfl) (fun _ _ _ h => h) (Or.inl ⟨by rfl, fun W' hS => by have hcv := HC1q.out W' hS; go_simp⟩) (by assumption) ?_
          try simp only [Act.put, List.setIfInBounds_toArray, List.set_cons_zero, List.set_cons_succ]
          refine wpAnyH_take (i := 8) (oi := ⟨some 33, _, _, _, _, _⟩) (v := ?_) rfl (by kernel_rfl) (by kernel_rfl) (by kernel_rfl) (fun _ _ _ h => h) (Or.inl ⟨by rfl, ?_⟩) (by assumption) ?_
          rotate_left
          · intro w hSw; (try dsimp only at hSw); go_simp; try (with_reducible rfl)
          rotate_left 0
          try simp only [Act.put, List.setIfInBounds_toArray, List.set_cons_zero, List.set_cons_succ]
          refine wpAnyH_take (i := 9) (oi := ⟨some 34, _, _, _, _, _⟩) (v := ?_) rfl (by kernel_rfl) (by kernel_rfl) (by kernel_rfl) (fun _ _ _ h => h) (Or.inl ⟨by rfl, ?_⟩) (by assumption) ?_
          rotate_left
          · intro w hSw; (try dsimp only at hSw); go_simp; try (with_reducible rfl)
          rotate_left 0
          try simp only [Act.put, List.setIfInBounds_toArray, List.set_cons_zero, List.set_cons_succ]
          refine wpAnyH_take (i := 10) (oi := ⟨some 35, _, _, _, _, _⟩) (v := (.slice (some ad2) lb cb)) rfl (by kernel_rfl) (by kernel_rfl) (by kernel_rfl) (fun _ _ _ h => h) (Or.inl ⟨by rfl, fun W' hS => by have hcv := HR2q.out W' hS; go_simp⟩) (by assumption) ?_
          try simp only [Act.put, List.setIfInBounds_toArray, List.set_cons_zero, List.set_cons_succ]
          refine wpAnyH_take (i := 11) (oi := ⟨some 36, _, _, _, _, _⟩) (v := ?_) rfl (by kernel_rfl) (by kernel_rfl) (by kernel_rfl) (fun _ _ _ h => h) (Or.inl ⟨by rfl, ?_⟩) (by assumption) ?_
          rotate_left
          · intro w hSw; (try dsimp only at hSw); go_simp; try (with_reducible rfl)
          rotate_left 0
          try simp only [Act.put, List.setIfInBounds_toArray, List.set_cons_zero, List.set_cons_succ]
          refine wpAnyH_take (i := 12) (oi := ⟨some 37, _, _, _, _, _⟩) (v := ?_) rfl (by kernel_rfl) (by kernel_rfl) (by kernel_rfl) (fun _ _ _ h => h) (Or.inl ⟨by rfl, ?_⟩) (by assumption) ?_
          rotate_left
          · intro w hSw; (try dsimp only at hSw); go_simp; try (with_reducible rfl)
          rotate_left 0
          try simp only [Act.put, List.setIfInBounds_toArray, List.set_cons_zero, List.set_cons_succ]
          refine wpAnyH_take (i := 13) (oi := ⟨some 38, _, _, _, _, _⟩) (v := (.int .i64 (y' : Int))) rfl (by kernel_rfl) (by kernel_rfl) (by kernel_rfl) (fun _ _ _ h => h) (Or.inl ⟨by rfl, fun W' hS => by have hcv := HX2.out W' hS; go_simp⟩) (by assumption) ?_
          try simp only [Act.put, List.setIfInBounds_toArray, List.set_cons_zero, List.set_cons_succ]
          refine wpAnyH_take (i := 14) (oi := ⟨some 39, _, _, _, _, _⟩) (v := ?_) rfl (by kernel_rfl) (by kernel_rfl) (by kernel_rfl) (fun _ _ _ h => h) (Or.inl ⟨by rfl, ?_⟩) (by assumption) ?_
          rotate_left
          · intro w hSw; (try dsimp only at hSw); go_simp; try (with_reducible rfl)
          rotate_left 0
          try simp only [Act.put, List.setIfInBounds_toArray, List.set_cons_zero, List.set_cons_succ]
          refine wpAnyH_done (by kernel_rfl) ?_ _
          have HX := Lib.hid (HBQ.out.trans (hbX.mono HBQ.out.size))
          have HD : Hid (partsOf E (pre ++ [(a, b)]) = partsOf E pre ++ [(a, b, q)]) := Lib.hid (by
            rw [partsOf_append, partsOf_some (by rw [HL12.out.1, HL12.out.2]; exact diffL_some (by rw [HLA.out]; exact hqa) (by rw [HLB.out]; exact hqb) (by rw [HQ1.out, HQ2.out]; exact fun e => HXY.out (Option.some.inj e)) HAG.out)])
          have HPF : Hid ((partsOf E pre ++ [(a, b, q)]) <+: partsL E) := Lib.hid (by rw [← HD.out]; have := HPP.out; unfold partsL; rw [HN.out]; exact this)
          have hW : W.heap.size ≤ Wb.heap.size := Nat.le_trans (by have := HA.out.2.2.2; have := HP.out.2.size; omega) HI.out.2.2.2
          have k2x := HI.out.2.1.below HX.out HI.out.2.1.lt
          have k3x := HI.out.2.2.1.below HX.out HI.out.2.2.1.lt
          have cy : _ = some (Value.func (.yield y) #[] #[]) := (k2x.cell 0).trans rfl
          have hszx := HX.out.size
          obtain ⟨fn, tm, assign, bd, hy, hR1⟩ := HY.out _ (a, b, q) _ HPF.out (HJ.out _ _ _ HI.out.1 (HX.out.mono hW))
          dsimp only [encT] at hy
          have HK23 := Lib.hid (And.intro k2x (And.intro k3x hszx))
          have HWW := Lib.hid hW
          clear hbX k2x k3x hszx hW
          gi_wp2_with (first
            | (refine ⟨rfl, ?_⟩; refine hR1.mono ?_; clear hR1; rintro e W6 (⟨rfl, hJ2, hk2, hf2⟩ | ⟨rfl, hJx2, hf2⟩)))
          · have hW := HWW.out
            have hA1 := HA.out.2.2.2
            refine ⟨keepsFrom_trans (keepsFrom_of_below HX.out) (keepsFrom_mono hf2 (by have := HP.out.2.size; omega)), (Keep.of_below HX.out).trans hk2, by rw [HD.out]; exact hJ2, HK23.out.1.kept hk2 (fun h => by have := HOWN.out _ h; omega), HK23.out.2.1.kept hk2 (fun h => by have := HOWN.out _ h; omega), Nat.le_trans (Nat.le_trans HI.out.2.2.2 HK23.out.2.2) hk2.size⟩
          · have hA1 := HA.out.2.2.2
            exact ⟨keepsFrom_trans (keepsFrom_of_below HX.out) (keepsFrom_mono hf2 (by have := HP.out.2.size; omega)), rfl, _, HPF.out, by simp, hJx2⟩
      · obtain rfl : q = mn := by omega
        have HNO : Hid (partsOf E (pre ++ [(a, b)]) = partsOf E pre) := Lib.hid (by
          rw [partsOf_append, partsOf_none (by rw [HL12.out.1, HL12.out.2]; exact diffL_none fun j h1 h2 => HAG.out j (by rw [HLA.out] at h1; rw [HLB.out] at h2; have := HMN.out; omega)), List.append_nil])
        gi_wp2
        have hi := HI.out
        have hW : W.heap.size ≤ Wb.heap.size := Nat.le_trans (by have := HA.out.2.2.2; have := HP.out.2.size; omega) hi.2.2.2
        exact ⟨keepsFrom_of_below HBQ.out, Keep.of_below HBQ.out, by rw [HNO.out]; exact HJ.out _ _ _ hi.1 (HBQ.out.mono hW), hi.2.1.below HBQ.out hi.2.1.lt, hi.2.2.1.below HBQ.out hi.2.2.1.lt, Nat.le_trans hi.2.2.2 HBQ.out.size⟩
  case done =>
    rintro D Wd hD hi hK
    have HMK : Hid (Marks W.heap.size ({ target := .collected D, args := #[] } :: []) Wd) := Lib.hid ⟨D, rfl, by have := HP.out.2.size; have := HA.out.2.2.2; omega, hK, fun e he => by simp at he, trivial⟩
    have HL : Hid (J (partsL E) Wd) := Lib.hid (by unfold partsL; rw [HN.out]; exact hi.1)
    clear hi hK
    gi_wp2
    exact leaves_marks (by simp) _ _ HMK.out fun w' hb => ⟨_, results_none rfl _ _ _, ⟨_, rfl⟩, .inl (HJ.out _ _ _ HL.out hb)⟩
  case stop =>
    rintro D c pre Wd hD hpre hne ⟨rfl, l, hl1, hl2, hl3⟩ hK
    have HMK : Hid (Marks W.heap.size ({ target := .collected D, args := #[] } :: []) Wd) := Lib.hid ⟨D, rfl, by have := HP.out.2.size; have := HA.out.2.2.2; omega, hK, fun e he => by simp at he, trivial⟩
    have HL := Lib.hid (And.intro hl1 (And.intro hl2 hl3))
    clear hl1 hl2 hl3 hK
    gi_wp2
    exact leaves_marks (by simp) _ _ HMK.out fun w' hb => ⟨_, results_none rfl _ _ _, ⟨_, rfl⟩, .inr ⟨l, HL.out.1, HL.out.2.1, HJX.out _ _ _ HL.out.2.2 hb⟩⟩
end Go.Proofs.Ytalacjmcllfdhaa
