/-
  Layer 10: the law JournalAgain. In whatever memory in which the tables lie. No condition.
-/
import Derived.Test.YtbfapabjglipoaaDoorJrnLawB
namespace Go.Proofs.YtbfapabjglipoaaDoor
open Go Go.RowKit Go.Shelf

/-- A slab in blocks that S bears. -/
def SS (w : World) (S : Nat → Prop) (gd : Nat) (sd : SlabS) : Prop := ∃ Z, SlabAt w Z gd sd ∧ (∀ i, Z i → S i) ∧ ∀ i, S i → i < w.heap.size
theorem JS.slab {w : World} {S : Nat → Prop} {g gd : Nat} {s : JrnS} {sd : SlabS} (h : JS w S g gd s sd) : SS w S gd sd := by
  obtain ⟨Y, Z, h1, h2, h3, h4, h5, h6⟩ := h
  exact ⟨Z, h2, h5, h6⟩
theorem SS.turn {w w' : World} {S T : Nat → Prop} {gd : Nat} {sd : SlabS} (h : SS w S gd sd) (ht : Turn T w w') (hs : ∀ i, S i → ¬ T i) : SS w' S gd sd := by
  obtain ⟨Z, h1, h2, h3⟩ := h
  exact ⟨Z, h1.turn ht (fun i hi => hs i (h2 i hi)), h2, fun i hi => Nat.lt_of_lt_of_le (h3 i hi) ht.size⟩
theorem SS.lt {w : World} {S : Nat → Prop} {gd : Nat} {sd : SlabS} (h : SS w S gd sd) : ∀ i, S i → i < w.heap.size := by
  obtain ⟨Z, h1, h2, h3⟩ := h
  exact h3
theorem SS.below {w w' : World} {S : Nat → Prop} {gd : Nat} {sd : SlabS} (h : SS w S gd sd) (hb : Below w.heap.size w w') : SS w' S gd sd := h.turn (Turn.of_below hb) (fun i hi => by have := h.lt i hi; omega)
theorem ss_open {w : World} {S : Nat → Prop} {gd : Nat} {l : List (List UInt8)} {n sure : Nat} (hT : Tables w) (h : SS w S gd (sL n l sure)) (hl : ∀ d ∈ l, d.length ≤ 300) :
    Calls Tryd.prog 13 #[.pointer (some ⟨gd, 0, none⟩)] w fun e w' => ∃ g S', e = .returned (.tuple #[.pointer (some ⟨g, 0, none⟩), .int .i64 0]) ∧ JS w' S' g gd (jL l) (sL n l sure) ∧ Turn S w w' ∧ ∀ i, S' i → S i ∨ w.heap.size ≤ i := by
  obtain ⟨Z, h1, h2, h3⟩ := h
  refine (js_open hT h1 (openJ_all n l sure (-1) (fun d hd => by have := hl d hd; omega))).mono ?_
  rintro e w' ⟨g, S', he, q1, q2, q3⟩
  exact ⟨g, S', he, q1, q2.mono fun i _ hi => h2 i hi, fun i hi => (q3 i hi).imp (h2 i) id⟩
theorem new_50000 (w : World) : Calls Tryd.prog 11 #[.int .i64 50000] w fun e w' => e = .returned (.tuple #[.pointer (some ⟨w.heap.size, 0, none⟩), .int .i64 0]) ∧ SS w' (fun i => i = w.heap.size) w.heap.size (sL 50000 [] 0) ∧ Below w.heap.size w w' := by
  have h := slabNew_any 50000 (by omega) w
  rw [Int.cast_ofNat_Int] at h
  refine h.mono ?_
  rintro e w' ⟨he, h1, h2⟩
  exact ⟨he, ⟨_, h1, fun i hi => hi, by obtain ⟨_, _, _, _, _, q, _⟩ := h1; exact q⟩, h2⟩
theorem recs_le {ps : List (List UInt8)} (h : ∀ d ∈ ps, d.length ≤ 300) : (recsT zeroD ps).length ≤ 335 * ps.length := by
  rw [recsT_length]
  have := flat_le h
  omega
theorem turn_setRow (w : World) (g : Nat) (cs : Array Value) : Turn (fun i => i = g) w (w.setRow g cs) := ⟨rfl, rfl, rfl, by rw [size_setRow]; exact Nat.le_refl _, fun i _ hn => setRow_other w g i cs hn⟩
/-- Between two openings: so many records are there. -/
def AgainR (w : World) (gd gl k : Nat) (ps : List (List UInt8)) (wr : World) : Prop :=
  ∃ S sure, SS wr S gd (sL 50000 (ps.take k) sure) ∧ (∀ i, S i → w.heap.size ≤ i ∧ i ≠ gl) ∧ Blk wr gl 37 (arr 32 fun i => bv (lastT zeroD (ps.take k) i)) ∧ Below w.heap.size w wr
set_option maxRecDepth 100000 in
set_option maxHeartbeats 4000000 in
theorem again_law (A : Option Addr) (c : Nat) (ps : List (List UInt8)) (times : Int) (w : World) (hT : Tables w) (hm : ps.length ≤ 140737488351232) (hr : RdP w (fun b => b < w.heap.size) A ps) :
    Calls Tryd.prog 7 #[.slice A ps.length c, .int .i64 times] w fun e w' => e = .returned (.bool true) ∧ Below w.heap.size w w' := by
  have HT := Lib.hid hT
  have HWR := Lib.hid (writes_any w hT)
  obtain ⟨n, hn⟩ : ∃ n, ps.length = n := ⟨_, rfl⟩
  rw [hn] at hm ⊢
  have HN := Lib.hid hn
  have HR := Lib.hid hr
  clear hT hr hn
  by_cases h12 : 10 < n
  · have e1 : decide ((n : Int) > 10) = true := decide_eq_true (by omega)
    go_enter Tryd.func7, Tryd.ntmps7
    go_wp2_with (go_at_call 10; refine HWR.out.mono ?_; rintro e W1 ⟨rfl, hb1⟩)
    go_ret
    exact ⟨rfl, hb1⟩
  · have e1 : decide ((n : Int) > 10) = false := decide_eq_false (by omega)
    by_cases h0 : times < 1
    · have e2 : decide (times < 1) = true := decide_eq_true h0
      go_enter Tryd.func7, Tryd.ntmps7
      go_wp2_with (go_at_call 10; refine HWR.out.mono ?_; rintro e W1 ⟨rfl, hb1⟩)
      go_ret
      exact ⟨rfl, hb1⟩
    · have e2 : decide (times < 1) = false := decide_eq_false h0
      by_cases h2 : 5 < times
      · have e3 : decide (times > 5) = true := decide_eq_true h2
        go_enter Tryd.func7, Tryd.ntmps7
        go_wp2_with (go_at_call 10; refine HWR.out.mono ?_; rintro e W1 ⟨rfl, hb1⟩)
        go_ret
        exact ⟨rfl, hb1⟩
      · have e3 : decide (times > 5) = false := decide_eq_false h2
        obtain ⟨r, rfl⟩ : ∃ r : Nat, times = (r : Int) := ⟨times.toNat, by omega⟩
        have hr2 : r ≤ 5 := by omega
        have hr1 : 1 ≤ r := by omega
        have HN12 : Hid (n ≤ 10) := Lib.hid (by omega)
        have HZ32 : Hid (Array.replicate 32 (bv 0) = arr 32 fun _ => bv 0) := Lib.hid (by rw [← upto_none 32 (fun _ => bv 0) (bv 0)]; exact arr_congr fun i _ => by simp)
        go_enter Tryd.func7, Tryd.ntmps7
        go_wp2_with (go_at_call 10; refine HWR.out.mono ?_; rintro e W1 ⟨rfl, hb1⟩)
        refine (new_50000 W1).mono ?_
        rintro e W2 ⟨rfl, hd2, hb2⟩
        dsimp only
        go_upto_region 10 with fail
        generalize hW : World.alloc W2 _ = W3
        have k3 : Blk W3 W2.heap.size 37 (arr 32 fun _ => bv 0) := by rw [← hW]; exact Blk.newAt _ _ rfl HZ32.out
        have hb3 : Below W2.heap.size W2 W3 := by rw [← hW]; exact (Below.refl _ _).alloc (Nat.le_refl _) _
        have HS1 := Lib.hid hb1.size
        have HSTART : Hid (AgainR w W1.heap.size W2.heap.size 0 ps W3) := Lib.hid (by
          have := hd2.lt _ rfl
          have := hb1.size
          exact ⟨_, 0, hd2.below hb3, fun i hi => by rw [hi]; omega, k3, hb1.trans ((hb2.trans (hb3.mono hb2.size)).mono hb1.size)⟩)
        have HGL' : Hid (w.heap.size ≤ W2.heap.size) := Lib.hid (Nat.le_trans hb1.size hb2.size)
        obtain ⟨gl, hgl⟩ : ∃ gl, W2.heap.size = gl := ⟨_, rfl⟩
        obtain ⟨gd, hgd⟩ : ∃ gd, W1.heap.size = gd := ⟨_, rfl⟩
        rw [hgl, hgd] at HSTART
        rw [hgl] at HGL'
        have HGL := HGL'
        clear HGL'
        rw [hgl, hgd]
        clear hgl hgd hW k3 hb3 hd2 hb2 hb1 HS1
        go_wp2_with fail
        go_loopw [7, 39] (fun s7 i wr => ∃ k : Nat, k ≤ n ∧ i = .int .i64 (k : Int) ∧ s7 = .int .i64 (k : Int) ∧ (∀ d ∈ ps.take k, d.length ≤ 300) ∧ AgainR w gd gl k ps wr) (fun _ i _ => n - (intOf i).toNat)
        case atStart => exact ⟨0, Nat.zero_le _, rfl, rfl, by simp, HSTART.out⟩
        case round =>
          clear HSTART
          obtain ⟨k, hk, rfl, rfl, hl3, hag⟩ := hrel
          by_cases hkn : k < n
          · have hki : (k : Int) < (n : Int) := by omega
            obtain ⟨ad, v, rfl, hok, hcell, hrd⟩ := HR.out k (by rw [HN.out]; exact hkn)
            have hbw : Below w.heap.size w wr := by obtain ⟨_, _, _, _, _, q⟩ := hag; exact q
            have hcw := (hbw.cell (p := ad.add k) (by rw [block_add]; exact hok)).trans hcell
            obtain ⟨d, hd⟩ : ∃ d, ps.getD k [] = d := ⟨_, rfl⟩
            have htk : ps.take (k + 1) = ps.take k ++ [d] := by
              have hl : k < ps.length := by rw [HN.out]; exact hkn
              rw [List.take_succ_eq_append_getElem hl, ← hd, List.getD_eq_getElem?_getD, List.getElem?_eq_getElem hl]
              rfl
            rw [hd] at hrd
            obtain ⟨Ae, ce, rfl, _⟩ := id hrd
            obtain ⟨m, hdm⟩ : ∃ m, d.length = m := ⟨_, rfl⟩
            rw [hdm] at hrd hcw
            have HRD := Lib.hid hrd
            have HDM := Lib.hid hdm
            have HTK := Lib.hid htk
            have HAG := Lib.hid hag
            have HL3 := Lib.hid hl3
            clear hcell hrd hd hdm htk hag hl3
            by_cases h300 : 300 < m
            · have e4 : decide ((m : Int) > 300) = true := decide_eq_true (by omega)
              go_wp2
              go_ret
              exact ⟨rfl, hbw⟩
            · have e4 : decide ((m : Int) > 300) = false := decide_eq_false (by omega)
              have HL4 : Hid (∀ x ∈ ps.take (k + 1), x.length ≤ 300) := Lib.hid fun x hx => by
                rw [HTK.out] at hx
                rcases List.mem_append.1 hx with hx | hx
                · exact HL3.out x hx
                · rw [List.mem_singleton.1 hx, HDM.out]
                  omega
              have HDR : Hid (∀ W (S : Nat → Prop), Below w.heap.size w W → (∀ i, S i → w.heap.size ≤ i) → RdB W (fun i => i < W.heap.size ∧ ¬ S i) (.slice Ae m ce) d) := Lib.hid fun W S hb hS => (HRD.out.kept fun i x hi h => (hb.cell (p := i) hi).trans h).mono fun i hi => ⟨Nat.lt_of_lt_of_le hi hb.size, fun h => by have := hS i h; omega⟩
              clear hbw
              go_wp2_with fail
              go_loopw [7, 11] (fun s7 i wr => ∃ j e : Nat, j ≤ r ∧ (j < r → e = k) ∧ (j = r → e = k + 1) ∧ i = .int .i64 (j : Int) ∧ s7 = .int .i64 (e : Int) ∧ AgainR w gd gl e ps wr) (fun _ i _ => r - (intOf i).toNat)
              case atStart => exact ⟨0, k, Nat.zero_le _, fun _ => rfl, fun h => by omega, rfl, rfl, HAG.out⟩
              case round =>
                clear HAG
                obtain ⟨j, e, hj, he1, he2, rfl, rfl, hag⟩ := hrel
                by_cases hjr : j < r
                · obtain rfl : e = k := he1 hjr
                  have hji : (j : Int) < (r : Int) := by omega
                  obtain ⟨S, sure, hss, hS, hk8, hbw⟩ := hag
                  have HLE : Hid ((ps.take e).length = e) := Lib.hid (by rw [List.length_take, HN.out]; omega)
                  have hsm := neq_sameJ (lastT zeroD (ps.take e))
                  go_upto_region 19 with (go_at_call 13; refine (ss_open (HT.out.below hbw) hss HL3.out).mono ?_; rintro ev W6 ⟨g, S', rfl, hj6, ht6, hS6⟩)
                  have HB6 := Lib.hid (below_turn hbw (Nat.le_refl _) ht6 (fun i hi => (hS i hi).1))
                  have HK8 := Lib.hid (ht6.blk hk8 (fun h => (hS gl h).2 rfl))
                  have HJ := Lib.hid hj6
                  have HS6 : Hid (∀ i, S' i → w.heap.size ≤ i ∧ i ≠ gl) := Lib.hid fun i hi => by
                    rcases hS6 i hi with h | h
                    · exact hS i h
                    · have := hk8.lt
                      have := hbw.size
                      omega
                  have hbX : Below W6.heap.size W6 W6.drew := (Below.refl _ _).drew
                  clear hss hS hk8 hbw hj6 ht6 hS6 he1 he2
                  refine wp_region_held_drew (S := fun W' => Below W6.heap.size W6 W') (by kernel_rfl) ?_ (fun hHeld => ?_)
                  · exact hbX
                  refine wpAnyH_take (i := 0) (oi := ⟨some 56, _, _, _, _, _⟩) (v := ?_) rfl (by kernel_rfl) (by kernel_rfl) (by kernel_rfl) (fun _ _ _ h => h) (Or.inl ⟨by rfl, ?_⟩) (by assumption) ?_
                  rotate_left
                  · intro w hSw; (try dsimp only at hSw); go_simp; try (with_reducible rfl)
                  rotate_left 0
                  try simp only [Act.put, List.setIfInBounds_toArray, List.set_cons_zero, List.set_cons_succ]
                  refine wpAnyH_take (i := 1) (oi := ⟨some 57, _, _, _, _, _⟩) (v := ?_) rfl (by kernel_rfl) (by kernel_rfl) (by kernel_rfl) (fun _ _ _ h => h) (Or.inl ⟨by rfl, ?_⟩) (by assumption) ?_
                  rotate_left
                  · intro w hSw; (try dsimp only at hSw); go_simp; try (with_reducible rfl)
                  rotate_left 0
                  try simp only [Act.put, List.setIfInBounds_toArray, List.set_cons_zero, List.set_cons_succ]
                  refine wpAnyH_take (i := 2) (oi := ⟨some 58, _, _, _, _, _⟩) (v := ?_) rfl (by kernel_rfl) (by kernel_rfl) (by kernel_rfl) (fun _ _ _ h => h) (Or.inl ⟨by rfl, ?_⟩) (by assumption) ?_
                  rotate_left
                  · intro w hSw; (try dsimp only at hSw); go_simp; try (with_reducible rfl)
                  rotate_left 0
                  try simp only [Act.put, List.setIfInBounds_toArray, List.set_cons_zero, List.set_cons_succ]
                  refine wpAnyH_take (i := 3) (oi := ⟨some 59, _, _, _, _, _⟩) (v := ?_) rfl (by kernel_rfl) (by kernel_rfl) (by kernel_rfl) (fun _ _ _ h => h) (Or.inl ⟨by rfl, ?_⟩) (by assumption) ?_
                  rotate_left
                  · intro w hSw; (try dsimp only at hSw); go_simp; try (with_reducible rfl)
                  rotate_left 0
                  try simp only [Act.put, List.setIfInBounds_toArray, List.set_cons_zero, List.set_cons_succ]
                  refine wpAnyH_take (i := 4) (oi := ⟨some 60, _, _, _, _, _⟩) (v := ?_) rfl (by kernel_rfl) (by kernel_rfl) (by kernel_rfl) (fun _ _ _ h => h) (Or.inl ⟨by rfl, ?_⟩) (by assumption) ?_
                  rotate_left
                  · intro w hSw; (try dsimp only at hSw); go_simp; try (with_reducible rfl)
                  rotate_left 0
                  try simp only [Act.put, List.setIfInBounds_toArray, List.set_cons_zero, List.set_cons_succ]
                  refine wpAnyH_take (i := 5) (oi := ⟨some 61, _, _, _, _, _⟩) (v := ?_) rfl (by kernel_rfl) (by kernel_rfl) (by kernel_rfl) (fun _ _ _ h => h) (Or.inl ⟨by rfl, ?_⟩) (by assumption) ?_
                  rotate_left
                  · intro w hSw; (try dsimp only at hSw); go_simp; try (with_reducible rfl)
                  rotate_left 0
                  try simp only [Act.put, List.setIfInBounds_toArray, List.set_cons_zero, List.set_cons_succ]
                  refine wpAnyH_take (i := 6) (oi := ⟨some 62, _, _, _, _, _⟩) (v := ?_) rfl (by kernel_rfl) (by kernel_rfl) (by kernel_rfl) (fun _ _ _ h => h) (Or.inl ⟨by rfl, ?_⟩) (by assumption) ?_
                  rotate_left
                  · intro w hSw; (try dsimp only at hSw); go_simp; try (with_reducible rfl)
                  rotate_left 0
                  try simp only [Act.put, List.setIfInBounds_toArray, List.set_cons_zero, List.set_cons_succ]
                  refine wpAnyH_take (i := 7) (oi := ⟨some 63, _, _, _, _, _⟩) (v := ?_) rfl (by kernel_rfl) (by kernel_rfl) (by kernel_rfl) (fun _ _ _ h => h) (Or.inl ⟨by rfl, ?_⟩) (by assumption) ?_
                  rotate_left
                  · intro w hSw; (try dsimp only at hSw); go_simp; try (with_reducible rfl)
                  rotate_left 0
                  try simp only [Act.put, List.setIfInBounds_toArray, List.set_cons_zero, List.set_cons_succ]
                  refine wpAnyH_take (i := 9) (oi := ⟨some 65, _, _, _, _, _⟩) (v := ?_) rfl (by kernel_rfl) (by kernel_rfl) (by kernel_rfl) (fun _ _ _ h => h) (Or.inl ⟨by rfl, ?_⟩) (by assumption) ?_
                  rotate_left
                  · intro w hSw; (try dsimp only at hSw); go_simp; try (with_reducible rfl)
                  rotate_left 0
                  try simp only [Act.put, List.setIfInBounds_toArray, List.set_cons_zero, List.set_cons_succ]
                  refine wpAnyH_ready (rs := [8]) (by kernel_rfl) (by simp) ?_
                  refine (AllReadyH.cons (o := ⟨some 64, _, _, _, _, _⟩) rfl (fun K hK => ?_) AllReadyH.nil)
                  (try rw [if_pos (by rfl)])
                  go_simp
                  refine (js_lenL (HJ.out.below hbX)).mono ?_
                  rintro ev Wn ⟨rfl, rfl⟩
                  rw [HLE.out]
                  try dsimp only
                  refine hK.out _ _ (hbX) (fun hHeld => ?_)
                  clear hK K
                  try simp only [Act.put, List.setIfInBounds_toArray, List.set_cons_zero, List.set_cons_succ]
                  refine wpAnyH_take (i := 10) (oi := ⟨some 66, _, _, _, _, _⟩) (v := ?_) rfl (by kernel_rfl) (by kernel_rfl) (by kernel_rfl) (fun _ _ _ h => h) (Or.inl ⟨by rfl, ?_⟩) (by assumption) ?_
                  rotate_left
                  · intro w hSw; (try dsimp only at hSw); go_simp; try (with_reducible rfl)
                  rotate_left 0
                  try simp only [Act.put, List.setIfInBounds_toArray, List.set_cons_zero, List.set_cons_succ]
                  refine wpAnyH_take (i := 11) (oi := ⟨some 67, _, _, _, _, _⟩) (v := ?_) rfl (by kernel_rfl) (by kernel_rfl) (by kernel_rfl) (fun _ _ _ h => h) (Or.inl ⟨by rfl, ?_⟩) (by assumption) ?_
                  rotate_left
                  · intro w hSw; (try dsimp only at hSw); go_simp; try (with_reducible rfl)
                  rotate_left 0
                  try simp only [Act.put, List.setIfInBounds_toArray, List.set_cons_zero, List.set_cons_succ]
                  refine wpAnyH_take (i := 12) (oi := ⟨some 68, _, _, _, _, _⟩) (v := ?_) rfl (by kernel_rfl) (by kernel_rfl) (by kernel_rfl) (fun _ _ _ h => h) (Or.inl ⟨by rfl, ?_⟩) (by assumption) ?_
                  rotate_left
                  · intro w hSw; (try dsimp only at hSw); go_simp; try (with_reducible rfl)
                  rotate_left 0
                  try simp only [Act.put, List.setIfInBounds_toArray, List.set_cons_zero, List.set_cons_succ]
                  refine wpAnyH_take (i := 13) (oi := ⟨some 69, _, _, _, _, _⟩) (v := ?_) rfl (by kernel_rfl) (by kernel_rfl) (by kernel_rfl) (fun _ _ _ h => h) (Or.inl ⟨by rfl, ?_⟩) (by assumption) ?_
                  rotate_left
                  · intro w hSw; (try dsimp only at hSw); go_simp; try (with_reducible rfl)
                  rotate_left 0
                  try simp only [Act.put, List.setIfInBounds_toArray, List.set_cons_zero, List.set_cons_succ]
                  refine wpAnyH_take (i := 15) (oi := ⟨some 71, _, _, _, _, _⟩) (v := (.agg (arr 32 fun i => bv (lastT zeroD (ps.take e) i)))) rfl (by kernel_rfl) (by kernel_rfl) (by kernel_rfl) (fun _ _ _ h => h) (yieldsIf_load_blk (by rfl) 37 _ rfl gl rfl 37 _ _ (fun W' hS => HK8.out.below hS HK8.out.lt) Tryd.underlying37 rfl (by rw [arr_size]; kernel_rfl)) (by assumption) ?_
                  try simp only [Act.put, List.setIfInBounds_toArray, List.set_cons_zero, List.set_cons_succ]
                  refine wpAnyH_ready (rs := [14]) (by kernel_rfl) (by simp) ?_
                  refine (AllReadyH.cons (o := ⟨some 70, _, _, _, _, _⟩) rfl (fun K hK => ?_) AllReadyH.nil)
                  (try rw [if_pos (by rfl)])
                  go_simp
                  refine (js_lastL (HJ.out.below hbX)).mono ?_
                  rintro ev Wl ⟨rfl, hbl⟩
                  replace hbX := hbX.trans (hbl.mono hbX.size)
                  try dsimp only
                  refine hK.out _ _ (hbX) (fun hHeld => ?_)
                  clear hK K
                  try simp only [Act.put, List.setIfInBounds_toArray, List.set_cons_zero, List.set_cons_succ]
                  refine wpAnyH_take (i := 16) (oi := ⟨some 72, _, _, _, _, _⟩) (v := ?_) rfl (by kernel_rfl) (by kernel_rfl) (by kernel_rfl) (fun _ _ _ h => h) (Or.inl ⟨by rfl, ?_⟩) (by assumption) ?_
                  rotate_left
                  · intro w hSw; (try dsimp only at hSw); go_simp; try (with_reducible rfl)
                  rotate_left 0
                  try simp only [Act.put, List.setIfInBounds_toArray, List.set_cons_zero, List.set_cons_succ]
                  refine wpAnyH_take (i := 17) (oi := ⟨some 73, _, _, _, _, _⟩) (v := ?_) rfl (by kernel_rfl) (by kernel_rfl) (by kernel_rfl) (fun _ _ _ h => h) (Or.inl ⟨by rfl, ?_⟩) (by assumption) ?_
                  rotate_left
                  · intro w hSw; (try dsimp only at hSw); go_simp; try (with_reducible rfl)
                  rotate_left 0
                  try simp only [Act.put, List.setIfInBounds_toArray, List.set_cons_zero, List.set_cons_succ]
                  refine wpAnyH_done (by kernel_rfl) ?_ _
                  have HX := Lib.hid hbX
                  have HWX := Lib.hid (HB6.out.trans (hbX.mono HB6.out.size))
                  have HJX := Lib.hid (HJ.out.below hbX)
                  have HKX := Lib.hid (HK8.out.below hbX HK8.out.lt)
                  clear hbX
                  by_cases hjl : j + 1 = r
                  · have e5 : ((j : Int) == (r : Int) - 1) = true := by rw [beq_iff_eq]; omega
                    have HWY : Hid (writeJ (jL (ps.take e)) (sL 50000 (ps.take e) sure) d = (jL (ps.take (e + 1)), sL 50000 (ps.take (e + 1)) (recsT zeroD (ps.take (e + 1))).length, 0)) := Lib.hid (by
                      rw [HTK.out]
                      have := recs_le HL3.out
                      have := HLE.out
                      have := HN12.out
                      exact write_yes 50000 _ sure d (by rw [HDM.out]; omega) (by rw [HDM.out]; omega))
                    have HWC := Lib.hid (js_write Ae m ce d (HT.out.below HWX.out) HJX.out (by show (ps.take e).length < 100000000; have := HLE.out; have := HN12.out; omega) (HDR.out _ S' HWX.out (fun i hi => (HS6.out i hi).1)))
                    rw [HWY.out] at HWC
                    go_wp2_with (first
                      | (go_at_call 16; refine HWC.out.mono ?_; rintro ev W7 ⟨rfl, S7, hj7, ht7, hS7⟩; have hk7 := ht7.blk HKX.out (fun h => (HS6.out gl h).2 rfl))
                      | (go_at_call 25; refine (js_lastL hj7).mono ?_; rintro ev W8 ⟨rfl, hb8⟩; have hk8' := hk7.below hb8 hk7.lt)
                      | (refine wpList_store_row rfl 37 _ _ rfl gl (arr 32 fun i => bv (lastT zeroD (ps.take (e + 1)) i)) rfl rfl 37 _ hk8' (by rw [arr_size]; kernel_rfl) (by rw [arr_size, arr_size]) (arr_all_bv _ _) ?_))
                    go_roundw
                    · have hw7 := below_turn HWX.out (Nat.le_refl _) ht7 (fun i hi => (HS6.out i hi).1)
                      have hw8 := hw7.trans (hb8.mono hw7.size)
                      have hS8 : ∀ i, S7 i → w.heap.size ≤ i ∧ i ≠ gl := fun i hi => by
                        rcases hS7 i hi with h | h
                        · exact HS6.out i h
                        · have := HKX.out.lt
                          have := HWX.out.size
                          omega
                      exact ⟨j + 1, e + 1, by omega, fun h => by omega, fun _ => rfl, by go_num, by go_num, S7, _, (hj7.slab.below hb8).turn (turn_setRow W8 gl _) (fun i hi h => (hS8 i hi).2 h), hS8, hk8'.setRow _, below_setRow hw8 HGL.out _⟩
                    · simp [intOf]
                      omega
                  · have e5 : ((j : Int) == (r : Int) - 1) = false := by rw [beq_eq_false_iff_ne]; omega
                    go_wp2
                    go_roundw
                    · exact ⟨j + 1, e, by omega, fun _ => rfl, fun h => absurd h hjl, by go_num, rfl, S', sure, HJX.out.slab, HS6.out, HKX.out, HWX.out⟩
                    · simp [intOf]
                      omega
                · obtain rfl : j = r := by omega
                  obtain rfl : e = k + 1 := he2 rfl
                  have HAG := Lib.hid hag
                  clear hag he1 he2
                  go_wp2
                  go_roundw
                  · exact ⟨k + 1, by omega, by go_num, by go_num, HL4.out, HAG.out⟩
                  · simp [intOf]
                    omega
          · obtain rfl : k = n := by omega
            have htn : ps.take k = ps := by rw [← HN.out]; exact List.take_length
            rw [htn] at hl3
            unfold AgainR at hag
            rw [htn] at hag
            obtain ⟨S, sure, hss, hS, hk8, hbw⟩ := hag
            obtain ⟨Z, hz, hZS, hSl⟩ := hss
            obtain ⟨T, hT'⟩ : ∃ T, (recsT zeroD ps).length = T := ⟨_, rfl⟩
            have hT50 : T ≤ 50000 := by
              have := recs_le hl3
              have := HN.out
              have := HN12.out
              omega
            have HBY : Hid (∀ W, Below wr.heap.size wr W → Calls Tryd.prog 23 #[.pointer (some ⟨gd, 0, none⟩)] W fun e w' => ∃ A' c', e = .returned (.slice A' T c') ∧ RdB w' (fun i => W.heap.size ≤ i ∧ i < w'.heap.size) (.slice A' T c') (recsT zeroD ps) ∧ Below W.heap.size W w') := Lib.hid fun W hb => (slabBytes_any Z gd (sL 50000 ps sure) W (hz.below hb)).mono (by
              rintro e w' ⟨A', c', he, ho, hb'⟩
              rw [show (sL 50000 ps sure).bs.length = T from hT'] at he ho
              exact ⟨A', c', he, rdB_own ho hT' (by omega), hb'⟩)
            have HTL := Lib.hid hT'
            have HK8 := Lib.hid hk8
            have HBW := Lib.hid hbw
            have HL3 := Lib.hid hl3
            have hk8l := hk8.lt
            clear hz hZS hSl hS hk8 hbw hT' htn hl3
            go_wp2_with fail
            refine (new_50000 wr).mono ?_
            rintro ev W10 ⟨rfl, ⟨Zc, hc1, hc2, hc3⟩, hb10⟩
            have HC1 := Lib.hid hc1
            have HC2 := Lib.hid hc2
            dsimp only
            go_wp2_with fail
            refine (HBY.out W10 hb10).mono ?_
            rintro ev W11 ⟨A1, c1, rfl, hr1, hb11⟩
            have hcz : ∀ i, Zc i → i = wr.heap.size := hc2
            have HAP := Lib.hid (slabAppend_any Zc wr.heap.size (sL 50000 [] 0) (fun i => W10.heap.size ≤ i ∧ i < W11.heap.size) A1 T c1 (recsT zeroD ps) W11 (hc1.below hb11) HTL.out hr1 (fun i hi => ⟨hi.2, fun hz => by have := hc3 i (hc2 i hz); omega⟩))
            rw [show (sL 50000 [] 0).app (recsT zeroD ps) = (sL 50000 ps 0, 0) from app_fits 50000 [] (recsT zeroD ps) 0 (by rw [HTL.out]; simpa using hT50)] at HAP
            have HB11 := Lib.hid (hb10.trans (hb11.mono hb10.size))
            clear hb10 hb11 hr1 hc1 hc2 hc3 HBY
            dsimp only
            go_wp2_with fail
            refine HAP.out.mono ?_
            rintro ev W12 ⟨rfl, Z2, hz1, hz2, hz3⟩
            have HB12 := Lib.hid (below_turn (HBW.out.trans (HB11.out.mono HBW.out.size)) (Nat.le_refl _) hz2 (fun i hi => by rw [hcz i hi]; exact HBW.out.size))
            have hk12 := hz2.blk (HK8.out.below HB11.out hk8l) (fun h => by have := hcz gl h; omega)
            have hng : ¬ Z2 gl := fun h => by
              rcases hz3 gl h with h | h
              · have := hcz gl h
                omega
              · have := HB11.out.size
                omega
            have hz2w : ∀ i, Z2 i → w.heap.size ≤ i := fun i hi => by
              have := HBW.out.size
              have := HB11.out.size
              rcases hz3 i hi with h | h
              · rw [hcz i h]
                omega
              · omega
            have HOP := Lib.hid (js_open (HT.out.below HB12.out) hz1 (openJ_all 50000 ps 0 (-1) (fun d hd => by have := HL3.out d hd; omega)))
            dsimp only
            go_upto_region 31 with (go_at_call 13; refine HOP.out.mono ?_; rintro ev W6 ⟨g, S', rfl, hj6, ht6, hS6⟩)
            have HB6 := Lib.hid (below_turn HB12.out (Nat.le_refl _) ht6 hz2w)
            have HK9 := Lib.hid (ht6.blk hk12 hng)
            have HJ : Hid (JS W6 S' g wr.heap.size (jL ps) (sL 50000 ps 0)) := Lib.hid hj6
            have hsm : ∀ w', (binOp .eql 37 (.agg (arr 32 fun i => bv (lastT zeroD ps i))) (.agg (arr 32 fun i => bv (lastT zeroD ps i)))).run Tryd.prog w' = .ok (.bool true) w' := fun w' => by
              have := eql_id (lastT zeroD ps) (lastT zeroD ps) w'
              rw [beq_self_eq_true] at this
              exact this
            have hbX : Below W6.heap.size W6 W6.drew := (Below.refl _ _).drew
            clear hj6 ht6 hS6 hz1 hz2 hz3 hk12 hng hz2w HOP HAP hcz
            refine wp_region_held_drew (S := fun W' => Below W6.heap.size W6 W') (by kernel_rfl) ?_ (fun hHeld => ?_)
            · exact hbX
            refine wpAnyH_take (i := 0) (oi := ⟨some 105, _, _, _, _, _⟩) (v := ?_) rfl (by kernel_rfl) (by kernel_rfl) (by kernel_rfl) (fun _ _ _ h => h) (Or.inl ⟨by rfl, ?_⟩) (by assumption) ?_
            rotate_left
            · intro w hSw; (try dsimp only at hSw); go_simp; try (with_reducible rfl)
            rotate_left 0
            try simp only [Act.put, List.setIfInBounds_toArray, List.set_cons_zero, List.set_cons_succ]
            refine wpAnyH_take (i := 1) (oi := ⟨some 106, _, _, _, _, _⟩) (v := ?_) rfl (by kernel_rfl) (by kernel_rfl) (by kernel_rfl) (fun _ _ _ h => h) (Or.inl ⟨by rfl, ?_⟩) (by assumption) ?_
            rotate_left
            · intro w hSw; (try dsimp only at hSw); go_simp; try (with_reducible rfl)
            rotate_left 0
            try simp only [Act.put, List.setIfInBounds_toArray, List.set_cons_zero, List.set_cons_succ]
            refine wpAnyH_take (i := 2) (oi := ⟨some 107, _, _, _, _, _⟩) (v := ?_) rfl (by kernel_rfl) (by kernel_rfl) (by kernel_rfl) (fun _ _ _ h => h) (Or.inl ⟨by rfl, ?_⟩) (by assumption) ?_
            rotate_left
            · intro w hSw; (try dsimp only at hSw); go_simp; try (with_reducible rfl)
            rotate_left 0
            try simp only [Act.put, List.setIfInBounds_toArray, List.set_cons_zero, List.set_cons_succ]
            refine wpAnyH_take (i := 3) (oi := ⟨some 108, _, _, _, _, _⟩) (v := ?_) rfl (by kernel_rfl) (by kernel_rfl) (by kernel_rfl) (fun _ _ _ h => h) (Or.inl ⟨by rfl, ?_⟩) (by assumption) ?_
            rotate_left
            · intro w hSw; (try dsimp only at hSw); go_simp; try (with_reducible rfl)
            rotate_left 0
            try simp only [Act.put, List.setIfInBounds_toArray, List.set_cons_zero, List.set_cons_succ]
            refine wpAnyH_take (i := 4) (oi := ⟨some 109, _, _, _, _, _⟩) (v := ?_) rfl (by kernel_rfl) (by kernel_rfl) (by kernel_rfl) (fun _ _ _ h => h) (Or.inl ⟨by rfl, ?_⟩) (by assumption) ?_
            rotate_left
            · intro w hSw; (try dsimp only at hSw); go_simp; try (with_reducible rfl)
            rotate_left 0
            try simp only [Act.put, List.setIfInBounds_toArray, List.set_cons_zero, List.set_cons_succ]
            refine wpAnyH_take (i := 5) (oi := ⟨some 110, _, _, _, _, _⟩) (v := ?_) rfl (by kernel_rfl) (by kernel_rfl) (by kernel_rfl) (fun _ _ _ h => h) (Or.inl ⟨by rfl, ?_⟩) (by assumption) ?_
            rotate_left
            · intro w hSw; (try dsimp only at hSw); go_simp; try (with_reducible rfl)
            rotate_left 0
            try simp only [Act.put, List.setIfInBounds_toArray, List.set_cons_zero, List.set_cons_succ]
            refine wpAnyH_take (i := 6) (oi := ⟨some 111, _, _, _, _, _⟩) (v := ?_) rfl (by kernel_rfl) (by kernel_rfl) (by kernel_rfl) (fun _ _ _ h => h) (Or.inl ⟨by rfl, ?_⟩) (by assumption) ?_
            rotate_left
            · intro w hSw; (try dsimp only at hSw); go_simp; try (with_reducible rfl)
            rotate_left 0
            try simp only [Act.put, List.setIfInBounds_toArray, List.set_cons_zero, List.set_cons_succ]
            refine wpAnyH_take (i := 7) (oi := ⟨some 112, _, _, _, _, _⟩) (v := ?_) rfl (by kernel_rfl) (by kernel_rfl) (by kernel_rfl) (fun _ _ _ h => h) (Or.inl ⟨by rfl, ?_⟩) (by assumption) ?_
            rotate_left
            · intro w hSw; (try dsimp only at hSw); go_simp; try (with_reducible rfl)
            rotate_left 0
            try simp only [Act.put, List.setIfInBounds_toArray, List.set_cons_zero, List.set_cons_succ]
            refine wpAnyH_take (i := 9) (oi := ⟨some 114, _, _, _, _, _⟩) (v := ?_) rfl (by kernel_rfl) (by kernel_rfl) (by kernel_rfl) (fun _ _ _ h => h) (Or.inl ⟨by rfl, ?_⟩) (by assumption) ?_
            rotate_left
            · intro w hSw; (try dsimp only at hSw); go_simp; try (with_reducible rfl)
            rotate_left 0
            try simp only [Act.put, List.setIfInBounds_toArray, List.set_cons_zero, List.set_cons_succ]
            refine wpAnyH_ready (rs := [8]) (by kernel_rfl) (by simp) ?_
            refine (AllReadyH.cons (o := ⟨some 113, _, _, _, _, _⟩) rfl (fun K hK => ?_) AllReadyH.nil)
            (try rw [if_pos (by rfl)])
            go_simp
            refine (js_lenL (HJ.out.below hbX)).mono ?_
            rintro ev Wn ⟨rfl, rfl⟩
            rw [HN.out]
            try dsimp only
            refine hK.out _ _ (hbX) (fun hHeld => ?_)
            clear hK K
            try simp only [Act.put, List.setIfInBounds_toArray, List.set_cons_zero, List.set_cons_succ]
            refine wpAnyH_take (i := 10) (oi := ⟨some 115, _, _, _, _, _⟩) (v := ?_) rfl (by kernel_rfl) (by kernel_rfl) (by kernel_rfl) (fun _ _ _ h => h) (Or.inl ⟨by rfl, ?_⟩) (by assumption) ?_
            rotate_left
            · intro w hSw; (try dsimp only at hSw); go_simp; try (with_reducible rfl)
            rotate_left 0
            try simp only [Act.put, List.setIfInBounds_toArray, List.set_cons_zero, List.set_cons_succ]
            refine wpAnyH_take (i := 11) (oi := ⟨some 116, _, _, _, _, _⟩) (v := ?_) rfl (by kernel_rfl) (by kernel_rfl) (by kernel_rfl) (fun _ _ _ h => h) (Or.inl ⟨by rfl, ?_⟩) (by assumption) ?_
            rotate_left
            · intro w hSw; (try dsimp only at hSw); go_simp; try (with_reducible rfl)
            rotate_left 0
            try simp only [Act.put, List.setIfInBounds_toArray, List.set_cons_zero, List.set_cons_succ]
            refine wpAnyH_take (i := 12) (oi := ⟨some 117, _, _, _, _, _⟩) (v := ?_) rfl (by kernel_rfl) (by kernel_rfl) (by kernel_rfl) (fun _ _ _ h => h) (Or.inl ⟨by rfl, ?_⟩) (by assumption) ?_
            rotate_left
            · intro w hSw; (try dsimp only at hSw); go_simp; try (with_reducible rfl)
            rotate_left 0
            try simp only [Act.put, List.setIfInBounds_toArray, List.set_cons_zero, List.set_cons_succ]
            refine wpAnyH_take (i := 13) (oi := ⟨some 118, _, _, _, _, _⟩) (v := ?_) rfl (by kernel_rfl) (by kernel_rfl) (by kernel_rfl) (fun _ _ _ h => h) (Or.inl ⟨by rfl, ?_⟩) (by assumption) ?_
            rotate_left
            · intro w hSw; (try dsimp only at hSw); go_simp; try (with_reducible rfl)
            rotate_left 0
            try simp only [Act.put, List.setIfInBounds_toArray, List.set_cons_zero, List.set_cons_succ]
            refine wpAnyH_take (i := 15) (oi := ⟨some 120, _, _, _, _, _⟩) (v := (.agg (arr 32 fun i => bv (lastT zeroD ps i)))) rfl (by kernel_rfl) (by kernel_rfl) (by kernel_rfl) (fun _ _ _ h => h) (yieldsIf_load_blk (by rfl) 37 _ rfl gl rfl 37 _ _ (fun W' hS => HK9.out.below hS HK9.out.lt) Tryd.underlying37 rfl (by rw [arr_size]; kernel_rfl)) (by assumption) ?_
            try simp only [Act.put, List.setIfInBounds_toArray, List.set_cons_zero, List.set_cons_succ]
            refine wpAnyH_ready (rs := [14]) (by kernel_rfl) (by simp) ?_
            refine (AllReadyH.cons (o := ⟨some 119, _, _, _, _, _⟩) rfl (fun K hK => ?_) AllReadyH.nil)
            (try rw [if_pos (by rfl)])
            go_simp
            refine (js_lastL (HJ.out.below hbX)).mono ?_
            rintro ev Wl ⟨rfl, hbl⟩
            replace hbX := hbX.trans (hbl.mono hbX.size)
            try dsimp only
            refine hK.out _ _ (hbX) (fun hHeld => ?_)
            clear hK K
            try simp only [Act.put, List.setIfInBounds_toArray, List.set_cons_zero, List.set_cons_succ]
            refine wpAnyH_take (i := 16) (oi := ⟨some 121, _, _, _, _, _⟩) (v := ?_) rfl (by kernel_rfl) (by kernel_rfl) (by kernel_rfl) (fun _ _ _ h => h) (Or.inl ⟨by rfl, ?_⟩) (by assumption) ?_
            rotate_left
            · intro w hSw; (try dsimp only at hSw); go_simp; try (with_reducible rfl)
            rotate_left 0
            try simp only [Act.put, List.setIfInBounds_toArray, List.set_cons_zero, List.set_cons_succ]
            refine wpAnyH_take (i := 17) (oi := ⟨some 122, _, _, _, _, _⟩) (v := ?_) rfl (by kernel_rfl) (by kernel_rfl) (by kernel_rfl) (fun _ _ _ h => h) (Or.inl ⟨by rfl, ?_⟩) (by assumption) ?_
            rotate_left
            · intro w hSw; (try dsimp only at hSw); go_simp; try (with_reducible rfl)
            rotate_left 0
            try simp only [Act.put, List.setIfInBounds_toArray, List.set_cons_zero, List.set_cons_succ]
            refine wpAnyH_take (i := 18) (oi := ⟨some 4, _, _, _, _, _⟩) (v := ?_) rfl (by kernel_rfl) (by kernel_rfl) (by kernel_rfl) (fun _ _ _ h => h) (Or.inl ⟨by rfl, ?_⟩) (by assumption) ?_
            rotate_left
            · intro w hSw; (try dsimp only at hSw); go_simp; try (with_reducible rfl)
            rotate_left 0
            try simp only [Act.put, List.setIfInBounds_toArray, List.set_cons_zero, List.set_cons_succ]
            refine wpAnyH_done (by kernel_rfl) ?_ _
            have HX := Lib.hid (HB6.out.trans (hbX.mono HB6.out.size))
            clear hbX
            go_wp2
            go_ret
            exact ⟨rfl, HX.out⟩
end Go.Proofs.YtbfapabjglipoaaDoor
