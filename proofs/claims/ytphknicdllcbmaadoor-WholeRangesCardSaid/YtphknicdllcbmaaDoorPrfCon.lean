/-
  proof's CheckConsistency: of any sizes, roots and path, in whatever memory in which the tables lie. No condition.
-/
import Derived.Test.YtphknicdllcbmaaDoorPrfInc
namespace Go.Proofs.YtphknicdllcbmaaDoor
open Go Go.RowKit Go.Shelf TreeM

/-- The roots of the elder list and of this one, to which a path leads. -/
def bothP (m : Nat) : List Pt → List D → D → D → D × D
  | p :: ps, x :: xs, e, n => if p.2 = m then bothP m ps xs x x else if p.2 < m then bothP m ps xs (node x e) (node x n) else bothP m ps xs e (node n x)
  | _, _, e, n => (e, n)
theorem bothP_step {m k : Nat} {link : List Pt} {path : List D} (h1 : k < link.length) (h2 : k < path.length) (e n : D) : bothP m (link.drop k) (path.drop k) e n =
    if (link.getD k (0, 0)).2 = m then bothP m (link.drop (k + 1)) (path.drop (k + 1)) (path.getD k dz) (path.getD k dz) else if (link.getD k (0, 0)).2 < m then bothP m (link.drop (k + 1)) (path.drop (k + 1)) (node (path.getD k dz) e) (node (path.getD k dz) n) else bothP m (link.drop (k + 1)) (path.drop (k + 1)) e (node n (path.getD k dz)) := by
  rw [List.drop_eq_getElem_cons h1, List.drop_eq_getElem_cons h2, bothP, List.getD_eq_getElem?_getD, List.getElem?_eq_getElem h1, List.getD_eq_getElem?_getD, List.getElem?_eq_getElem h2]
  rfl
theorem bothP_end {m : Nat} {link : List Pt} {path : List D} {k : Nat} (h : link.length ≤ k) (e n : D) : bothP m (link.drop k) (path.drop k) e n = (e, n) := by
  rw [List.drop_eq_nil_of_le h]
  cases path.drop k <;> rfl
/-- CheckConsistency's answer. -/
def cconV (m size : Int) (one two : D) (path : List D) : Int :=
  if m < 1 ∨ size < m ∨ 1099511627776 < size then 1
  else if path.length ≠ (linkP m.toNat 0 size.toNat).length then 60
  else if (id32 (bothP m.toNat (linkP m.toNat 0 size.toNat).reverse path one one).1 == id32 one) = true ∧ (id32 (bothP m.toNat (linkP m.toNat 0 size.toNat).reverse path one one).2 == id32 two) = true then 0 else 60
section
variable {P : Program} {ops : Array Oper} {rest : List Oper} {o : Oper} {a : Act} {w : World} {Q : Exit → Act → World → Prop}
theorem wpList_load_runG (hw : Region.wanted o (yielded ops a.tmps) = true) (ty : TypeId) (x : Operand) (ho : o.op = .load ty x) (p v : Value) (hx : a.eval x = p) (hl : (Instr.loadAt ty p).run P w = .ok v w)
    (h : wpList P ops Q rest (a.put o.dst v) w) : wpList P ops Q (o :: rest) a w :=
  wpList_step fun K hK => by
    rw [if_pos hw]
    exact oper_load ty x ho p v hx hl (hK _ _ h)
end
set_option maxRecDepth 100000 in
set_option maxHeartbeats 1000000 in
theorem ccon_range (one two : D) (m size : Int) (h : m < 1 ∨ size < m ∨ 1099511627776 < size) (v : Value) (w : World) :
    Calls Tryd.prog 29 #[.int .i64 m, .int .i64 size, .agg (arr 32 fun i => bv (one i)), .agg (arr 32 fun i => bv (two i)), v] w fun e w' => e = .returned (.int .i64 1) ∧ Below w.heap.size w w' := by
  have hb0 : Below w.heap.size w ((w.alloc (.cells (arr 32 fun i => bv (one i)) 30)).alloc (.cells (arr 32 fun i => bv (two i)) 30)) := ((Below.refl _ _).alloc (Nat.le_refl _) _).alloc (by simp) _
  generalize (arr 32 fun i => bv (one i)) = x0 at *
  generalize (arr 32 fun i => bv (two i)) = x1 at *
  by_cases h0 : m < 1
  · have d0 : decide (m < 1) = true := decide_eq_true h0
    clear h
    go_enter Tryd.func29, Tryd.ntmps29
    go_wp2
    go_ret
    exact ⟨rfl, hb0⟩
  · have d0 : decide (m < 1) = false := decide_eq_false h0
    by_cases h1 : size < m
    · have d1 : decide (size < m) = true := decide_eq_true h1
      clear h
      go_enter Tryd.func29, Tryd.ntmps29
      go_wp2
      go_ret
      exact ⟨rfl, hb0⟩
    · have d1 : decide (size < m) = false := decide_eq_false h1
      have h2 : 1099511627776 < size := by omega
      have d2 : decide (1099511627776 < size) = true := decide_eq_true h2
      clear h
      go_enter Tryd.func29, Tryd.ntmps29
      go_wp2
      go_ret
      exact ⟨rfl, hb0⟩
set_option maxRecDepth 100000 in
set_option maxHeartbeats 2000000 in
theorem ccon_in (one two : D) (m size : Nat) (h1m : 1 ≤ m) (hms : m ≤ size) (hs : size ≤ 1099511627776) (v : Value) (path : List D) (w : World) (hT : Tables w) (hr : RdI w (fun b => b < w.heap.size) v path) :
    Calls Tryd.prog 29 #[.int .i64 (m : Int), .int .i64 (size : Int), .agg (arr 32 fun i => bv (one i)), .agg (arr 32 fun i => bv (two i)), v] w fun e w' => e = .returned (.int .i64 (cconV (m : Int) (size : Int) one two path)) ∧ Below w.heap.size w w' := by
  obtain ⟨A, c, rfl, hcap, _⟩ := id hr
  obtain ⟨n, hn⟩ : ∃ n, path.length = n := ⟨_, rfl⟩
  have d0 : decide ((m : Int) < 1) = false := decide_eq_false (by omega)
  have d1 : decide ((size : Int) < (m : Int)) = false := decide_eq_false (by omega)
  have d2 : decide (1099511627776 < (size : Int)) = false := decide_eq_false (by omega)
  have ha1 : (m : Int) ≤ 1099511627776 := by omega
  have hlen := linkP_length 40 m 0 size (by omega) (by omega) hms
  obtain ⟨N, hN⟩ : ∃ N, (linkP m 0 size).length = N := ⟨_, rfl⟩
  have hV : cconV (m : Int) (size : Int) one two path = if n ≠ N then 60 else if (id32 (bothP m (linkP m 0 size).reverse path one one).1 == id32 one) = true ∧ (id32 (bothP m (linkP m 0 size).reverse path one one).2 == id32 two) = true then 0 else 60 := by
    unfold cconV
    rw [if_neg (by omega), Int.toNat_natCast, Int.toNat_natCast, hN, hn]
  rw [hN] at hlen
  rw [hV]
  rw [hn] at hr ⊢
  have HWO : Hid (∀ W, Calls Tryd.prog 42 #[.int .i64 (m : Int), .int .i64 (size : Int)] W fun e w' => ∃ A c, e = .returned (.slice A N c) ∧ w'.ownsRow W.heap.size 75 2 (.slice A N c) N (ptCells (linkP m 0 size).reverse) ∧ Below W.heap.size W w') := Lib.hid fun W => (linkOf_any m size h1m hms hs W).mono (by
    rintro e w' ⟨v', rfl, ho, hb⟩
    rw [hN] at ho
    obtain ⟨A, c, rfl, _⟩ := own_len ho
    exact ⟨A, c, rfl, ho, hb⟩)
  have hWL : (linkP m 0 size).reverse.length = N := by rw [List.length_reverse, hN]
  obtain ⟨link, hway⟩ : ∃ link, (linkP m 0 size).reverse = link := ⟨_, rfl⟩
  rw [hway] at HWO hWL ⊢
  obtain ⟨R1, hR1⟩ : ∃ R1, (bothP m link path one one).1 = R1 := ⟨_, rfl⟩
  obtain ⟨R2, hR2⟩ : ∃ R2, (bothP m link path one one).2 = R2 := ⟨_, rfl⟩
  rw [hR1, hR2]
  have hR : bothP m link path one one = (R1, R2) := by rw [← hR1, ← hR2]
  have hb0 : Below w.heap.size w ((w.alloc (.cells (arr 32 fun i => bv (one i)) 30)).alloc (.cells (arr 32 fun i => bv (two i)) 30)) := ((Below.refl _ _).alloc (Nat.le_refl _) _).alloc (by simp) _
  have h5 : Blk ((w.alloc (.cells (arr 32 fun i => bv (one i)) 30)).alloc (.cells (arr 32 fun i => bv (two i)) 30)) w.heap.size 30 (arr 32 fun i => bv (one i)) := (Blk.new w _ _).alloc _
  have h9 : Blk ((w.alloc (.cells (arr 32 fun i => bv (one i)) 30)).alloc (.cells (arr 32 fun i => bv (two i)) 30)) (w.heap.size + 1) 30 (arr 32 fun i => bv (two i)) := Blk.newAt _ _ (by simp) rfl
  have ne1 := neq_id R1 one
  have ne2 := neq_id R2 two
  obtain ⟨β1, hβ1⟩ : ∃ β, (id32 R1 == id32 one) = β := ⟨_, rfl⟩
  obtain ⟨β2, hβ2⟩ : ∃ β, (id32 R2 == id32 two) = β := ⟨_, rfl⟩
  rw [hβ1] at ne1 ⊢
  rw [hβ2] at ne2 ⊢
  have HB0 := Lib.hid hb0
  have H5 := Lib.hid h5
  have H9 := Lib.hid h9
  have HR := Lib.hid hr
  have HT := Lib.hid hT
  have HN := Lib.hid hn
  have HWL := Lib.hid hWL
  have HRR := Lib.hid hR
  have HNE := Lib.hid (And.intro ne1 ne2)
  clear hV hb0 h5 h9 hr hT hn hN hWL hway hR hR1 hR2 hβ1 hβ2 ne1 ne2 hcap
  by_cases hnN : n = N
  · subst hnN
    rw [if_neg (by simp)]
    go_enter Tryd.func29, Tryd.ntmps29
    go_upto_region 6 with (go_at_call 42; refine (HWO.out _).mono ?_; rintro e W1 ⟨Aw, cw, rfl, ho1, hb1⟩; have K5 := Lib.hid (H5.out.below hb1 H5.out.lt); have K9 := Lib.hid (H9.out.below hb1 H9.out.lt); have KO := Lib.hid ho1; have KB := Lib.hid (HB0.out.trans (hb1.mono HB0.out.size)); have KS : Hid (w.heap.size + 2 ≤ W1.heap.size) := Lib.hid (by have := hb1.size; simp at this; omega); clear ho1 hb1 H5 H9)
    have H2 : Hid (∀ W, Below W1.heap.size W1 W → Blk W w.heap.size 30 (arr 32 fun i => bv (one i))) := Lib.hid fun W hb => K5.out.below hb K5.out.lt
    have hbX : Below W1.heap.size W1 W1.drew := (Below.refl _ _).drew
    go_cut [12, 13] from 35 to 38 (fun s6 s7 wx => ∃ b6 b7, s6 = .pointer (some ⟨b6, 0, none⟩) ∧ s7 = .pointer (some ⟨b7, 0, none⟩) ∧ b6 ≠ b7 ∧ Blk wx b6 30 (arr 32 fun i => bv (one i)) ∧ Blk wx b7 30 (arr 32 fun i => bv (one i)) ∧ W1.heap.size ≤ b6 ∧ W1.heap.size ≤ b7 ∧ Below W1.heap.size W1 wx)
    case first =>
      refine wp_region_held_drew (S := fun W' => Blk W' w.heap.size 30 (arr 32 fun i => bv (one i))) (by kernel_rfl) ?_ (fun hHeld => ?_)
      · exact H2.out _ hbX
      refine wpAnyH_take (i := 0) (oi := ⟨some 35, _, _, _, _, _⟩) (v := (.agg (arr 32 fun i => bv (one i)))) rfl (by kernel_rfl) (by kernel_rfl) (by kernel_rfl) (fun _ _ _ h => h) (yieldsIf_load_at (by rfl) 30 _ rfl ⟨w.heap.size, 0, none⟩ rfl 32 (fun i => bv (one i)) 5 (fun _ hS i hi => by rw [add_zero_block, hS.cell, arr_get, if_pos hi]) Tryd.underlying30 (by kernel_rfl)) (by assumption) ?_
      try simp only [Act.put, List.setIfInBounds_toArray, List.set_cons_zero, List.set_cons_succ]
      refine wpAnyH_take (i := 1) (oi := ⟨some 36, _, _, _, _, _⟩) (v := (.agg (arr 32 fun i => bv (one i)))) rfl (by kernel_rfl) (by kernel_rfl) (by kernel_rfl) (fun _ _ _ h => h) (yieldsIf_load_at (by rfl) 30 _ rfl ⟨w.heap.size, 0, none⟩ rfl 32 (fun i => bv (one i)) 5 (fun _ hS i hi => by rw [add_zero_block, hS.cell, arr_get, if_pos hi]) Tryd.underlying30 (by kernel_rfl)) (by assumption) ?_
      try simp only [Act.put, List.setIfInBounds_toArray, List.set_cons_zero, List.set_cons_succ]
      refine wpAnyH_ready (rs := [2, 3]) (by kernel_rfl) (by simp) ?_
      refine (AllReadyH.cons (o := ⟨some 12, _, _, _, _, _⟩) rfl (fun K hK => ?_) (AllReadyH.cons (o := ⟨some 13, _, _, _, _, _⟩) rfl (fun K hK => ?_) AllReadyH.nil))
      · (try rw [if_pos (by rfl)])
        go_simp
        first | refine alloc_gen ?_ | refine alloc_genD ?_
        intro Wa hka hba
        have hk6 := hka
        (try have hne := Nat.ne_of_gt (Blk.lt hk7))
        (try replace hk7 := Blk.below hk7 hba (Blk.lt hk7))
        have hg6 := hbX.size
        replace hbX : Below W1.heap.size W1 Wa := by first | exact hbX.trans (hba.mono hbX.size) | exact hba
        try dsimp only
        refine hK.out _ _ (H2.out _ hbX) (fun hHeld => ?_)
        clear hK K
        try simp only [Act.put, List.setIfInBounds_toArray, List.set_cons_zero, List.set_cons_succ]
        refine wpAnyH_ready (rs := [3]) (by kernel_rfl) (by simp) ?_
        refine (AllReadyH.cons (o := ⟨some 13, _, _, _, _, _⟩) rfl (fun K hK => ?_) AllReadyH.nil)
        (try rw [if_pos (by rfl)])
        go_simp
        first | refine alloc_gen ?_ | refine alloc_genD ?_
        intro Wa hka hba
        have hk7 := hka
        (try have hne := Nat.ne_of_lt (Blk.lt hk6))
        (try replace hk6 := Blk.below hk6 hba (Blk.lt hk6))
        have hg7 := hbX.size
        replace hbX : Below W1.heap.size W1 Wa := by first | exact hbX.trans (hba.mono hbX.size) | exact hba
        try dsimp only
        refine hK.out _ _ (H2.out _ hbX) (fun hHeld => ?_)
        clear hK K
        try simp only [Act.put, List.setIfInBounds_toArray, List.set_cons_zero, List.set_cons_succ]
        refine wpAnyH_ready (rs := [4]) (by kernel_rfl) (by simp) ?_
        refine (AllReadyH.cons (o := ⟨none, _, _, _, _, _⟩) rfl (fun K hK => ?_) AllReadyH.nil)
        (try rw [if_pos (by rfl)])
        refine wp_store_row 30 _ _ rfl _ (arr 32 fun i => bv (one i)) rfl rfl 30 _ hk6 (by rw [arr_size]; kernel_rfl) (by rw [arr_size]; rfl) (arr_all_bv _ _) ?_
        replace hk7 := Blk.setRow_far hk7 (Ne.symm hne) (arr 32 fun i => bv (one i))
        replace hk6 := Blk.setRow hk6 (arr 32 fun i => bv (one i))
        replace hbX := below_setRow hbX hg6 (arr 32 fun i => bv (one i))
        try simp only [Act.put]
        try dsimp only
        refine hK.out _ _ (H2.out _ hbX) (fun hHeld => ?_)
        clear hK K
        try simp only [Act.put, List.setIfInBounds_toArray, List.set_cons_zero, List.set_cons_succ]
        refine wpAnyH_ready (rs := [5]) (by kernel_rfl) (by simp) ?_
        refine (AllReadyH.cons (o := ⟨none, _, _, _, _, _⟩) rfl (fun K hK => ?_) AllReadyH.nil)
        (try rw [if_pos (by rfl)])
        refine wp_store_row 30 _ _ rfl _ (arr 32 fun i => bv (one i)) rfl rfl 30 _ hk7 (by rw [arr_size]; kernel_rfl) (by rw [arr_size]; rfl) (arr_all_bv _ _) ?_
        replace hk6 := Blk.setRow_far hk6 (hne) (arr 32 fun i => bv (one i))
        replace hk7 := Blk.setRow hk7 (arr 32 fun i => bv (one i))
        replace hbX := below_setRow hbX hg7 (arr 32 fun i => bv (one i))
        try simp only [Act.put]
        try dsimp only
        refine hK.out _ _ (H2.out _ hbX) (fun hHeld => ?_)
        clear hK K
        try simp only [Act.put, List.setIfInBounds_toArray, List.set_cons_zero, List.set_cons_succ]
        refine wpAnyH_done (by kernel_rfl) ?_ _
        go_wp2_with fail
        go_meet
        exact ⟨_, _, rfl, rfl, hne, hk6, hk7, hg6, hg7, hbX⟩
      · (try rw [if_pos (by rfl)])
        go_simp
        first | refine alloc_gen ?_ | refine alloc_genD ?_
        intro Wa hka hba
        have hk7 := hka
        (try have hne := Nat.ne_of_lt (Blk.lt hk6))
        (try replace hk6 := Blk.below hk6 hba (Blk.lt hk6))
        have hg7 := hbX.size
        replace hbX : Below W1.heap.size W1 Wa := by first | exact hbX.trans (hba.mono hbX.size) | exact hba
        try dsimp only
        refine hK.out _ _ (H2.out _ hbX) (fun hHeld => ?_)
        clear hK K
        try simp only [Act.put, List.setIfInBounds_toArray, List.set_cons_zero, List.set_cons_succ]
        refine wpAnyH_ready (rs := [2]) (by kernel_rfl) (by simp) ?_
        refine (AllReadyH.cons (o := ⟨some 12, _, _, _, _, _⟩) rfl (fun K hK => ?_) AllReadyH.nil)
        (try rw [if_pos (by rfl)])
        go_simp
        first | refine alloc_gen ?_ | refine alloc_genD ?_
        intro Wa hka hba
        have hk6 := hka
        (try have hne := Nat.ne_of_gt (Blk.lt hk7))
        (try replace hk7 := Blk.below hk7 hba (Blk.lt hk7))
        have hg6 := hbX.size
        replace hbX : Below W1.heap.size W1 Wa := by first | exact hbX.trans (hba.mono hbX.size) | exact hba
        try dsimp only
        refine hK.out _ _ (H2.out _ hbX) (fun hHeld => ?_)
        clear hK K
        try simp only [Act.put, List.setIfInBounds_toArray, List.set_cons_zero, List.set_cons_succ]
        refine wpAnyH_ready (rs := [4]) (by kernel_rfl) (by simp) ?_
        refine (AllReadyH.cons (o := ⟨none, _, _, _, _, _⟩) rfl (fun K hK => ?_) AllReadyH.nil)
        (try rw [if_pos (by rfl)])
        refine wp_store_row 30 _ _ rfl _ (arr 32 fun i => bv (one i)) rfl rfl 30 _ hk6 (by rw [arr_size]; kernel_rfl) (by rw [arr_size]; rfl) (arr_all_bv _ _) ?_
        replace hk7 := Blk.setRow_far hk7 (Ne.symm hne) (arr 32 fun i => bv (one i))
        replace hk6 := Blk.setRow hk6 (arr 32 fun i => bv (one i))
        replace hbX := below_setRow hbX hg6 (arr 32 fun i => bv (one i))
        try simp only [Act.put]
        try dsimp only
        refine hK.out _ _ (H2.out _ hbX) (fun hHeld => ?_)
        clear hK K
        try simp only [Act.put, List.setIfInBounds_toArray, List.set_cons_zero, List.set_cons_succ]
        refine wpAnyH_ready (rs := [5]) (by kernel_rfl) (by simp) ?_
        refine (AllReadyH.cons (o := ⟨none, _, _, _, _, _⟩) rfl (fun K hK => ?_) AllReadyH.nil)
        (try rw [if_pos (by rfl)])
        refine wp_store_row 30 _ _ rfl _ (arr 32 fun i => bv (one i)) rfl rfl 30 _ hk7 (by rw [arr_size]; kernel_rfl) (by rw [arr_size]; rfl) (arr_all_bv _ _) ?_
        replace hk6 := Blk.setRow_far hk6 (hne) (arr 32 fun i => bv (one i))
        replace hk7 := Blk.setRow hk7 (arr 32 fun i => bv (one i))
        replace hbX := below_setRow hbX hg7 (arr 32 fun i => bv (one i))
        try simp only [Act.put]
        try dsimp only
        refine hK.out _ _ (H2.out _ hbX) (fun hHeld => ?_)
        clear hK K
        try simp only [Act.put, List.setIfInBounds_toArray, List.set_cons_zero, List.set_cons_succ]
        refine wpAnyH_done (by kernel_rfl) ?_ _
        go_wp2_with fail
        go_meet
        exact ⟨_, _, rfl, rfl, hne, hk6, hk7, hg6, hg7, hbX⟩
    case rest =>
      clear hbX
      obtain ⟨b6, b7, rfl, rfl, hne, hk6, hk7, hg6, hg7, hbX⟩ := hcut
      have HNEB := Lib.hid (And.intro hne (And.intro hg6 hg7))
      have HST := Lib.hid (And.intro hk6 (And.intro hk7 hbX))
      clear hne hk6 hk7 hg6 hg7 hbX
      go_wp2
      go_loopw [39] (fun i wr => ∃ (k : Nat) (e nw : D), k ≤ n ∧ i = .int .i64 (k : Int) ∧ bothP m (link.drop k) (path.drop k) e nw = (R1, R2) ∧ Blk wr b6 30 (arr 32 fun i => bv (e i)) ∧ Blk wr b7 30 (arr 32 fun i => bv (nw i)) ∧ Below W1.heap.size W1 wr) (fun i _ => n - (intOf i).toNat)
      case atStart => exact ⟨0, one, one, Nat.zero_le _, rfl, by rw [List.drop_zero, List.drop_zero]; exact HRR.out, HST.out.1, HST.out.2.1, HST.out.2.2⟩
      case round =>
        obtain ⟨k, el, nw, hk, rfl, hlead, h12, h13, hb⟩ := hrel
        by_cases hlt : k < n
        · have hkn : (k : Int) < (n : Int) := by omega
          have hk0 : (0 : Int) ≤ (k : Int) := by omega
          have hk40 : (k : Int) ≤ 41 := by omega
          have hst := bothP_step (m := m) (k := k) (link := link) (path := path) (by rw [HWL.out]; exact hlt) (by rw [HN.out]; exact hlt) el nw
          rw [hst] at hlead
          have hrp := rdPt_own (Turn.own (Turn.of_below hb) KO.out (fun i hi => by have := (KO.out.lt i hi).2; omega))
          obtain ⟨Gw, rfl⟩ := hrp.addr (by omega)
          have hlw := load_rd hrp hlt
          have hbw : Below w.heap.size w wr := KB.out.trans (hb.mono KB.out.size)
          have hrI := HR.out.old hbw
          obtain ⟨ad, rfl, _, _⟩ := hrI.at_ hlt
          obtain ⟨p, hp⟩ : ∃ p, link.getD k (0, 0) = p := ⟨_, rfl⟩
          obtain ⟨x, hx⟩ : ∃ x, path.getD k dz = x := ⟨_, rfl⟩
          rw [hp] at hlead hlw
          rw [hx] at hlead
          have HLP : Hid (∀ W, Below w.heap.size w W → ∀ i, i < 32 → W.cell? ((ad.add (k * 32)).add i) = some (bv (x i))) := Lib.hid fun W hb' i hi => by
            obtain ⟨ad', e, _, hc⟩ := (HR.out.old hb').at_ hlt
            injection e with e
            subst e
            have := hc i hi
            rw [hx, Nat.mul_comm 32 k] at this
            exact this
          have H12 := Lib.hid h12
          have H13 := Lib.hid h13
          have HBX := Lib.hid hb
          have HLW := Lib.hid hlw
          have HLE := Lib.hid hlead
          have HND : Hid (∀ l r W, Below w.heap.size w W → Calls Tryd.prog 30 #[.agg (arr 32 fun i => bv (l i)), .agg (arr 32 fun i => bv (r i))] W fun e w' => e = .returned (.agg (arr 32 fun i => bv (node l r i))) ∧ Below W.heap.size W w') := Lib.hid fun l r W hb' => node_any l r W (HT.out.below hb')
          clear hst hrp hlw hbw hrI hp hx hlead h12 h13 hb
          have hone := ptc_one p
          by_cases heq : p.2 = m
          · have deq : ((p.2 : Int) == (m : Int)) = true := by rw [beq_iff_eq, heq]
            have HG := Lib.hid heq
            clear heq
            go_wp2_with (first
              | (guard_target = wpList _ _ _ (Oper.mk _ (.load 75 _) _ _ _ _ :: _) _ _; refine wpList_load_run rfl 75 _ rfl _ (.agg (ptc p)) rfl HLW.out ?_)
              | (refine wpList_store_arrW rfl 75 _ _ rfl wr.heap.size (ptc p) rfl rfl 75 _ (Blk.new wr _ _) (size_ptc _) rfl hone ?_; intro W3 hS3 hz3 hb3 hk3; have q13 : Below wr.heap.size wr W3 := ((Below.refl _ wr).alloc (Nat.le_refl _) _).trans hb3; have c31 : W3.cell? ⟨wr.heap.size, 1, none⟩ = some (.int .i64 (p.2 : Int)) := hS3.cell 1; have Q3 := Lib.hid q13; clear hS3 hz3 hb3 hk3 q13))
            have q12 : Blk W3.drew b6 30 (arr 32 fun i => bv (el i)) := H12.out.below Q3.out.drew H12.out.lt
            have q13 : Blk W3.drew b7 30 (arr 32 fun i => bv (nw i)) := H13.out.below Q3.out.drew H13.out.lt
            have qbX : Below W1.heap.size W1 W3.drew := HBX.out.trans (Q3.out.drew.mono HBX.out.size)
            obtain ⟨hne, hg6, hg7⟩ := HNEB.out
            clear c31
            refine wp_region_held_drew (S := fun W' => ∀ i, i < 32 → W'.cell? ((ad.add (k * 32)).add i) = some (bv (x i))) (by kernel_rfl) ?_ (fun hHeld => ?_)
            · exact HLP.out _ (KB.out.trans (qbX.mono KB.out.size))
            refine wpAnyH_take (i := 0) (oi := ⟨some 55, _, _, _, _, _⟩) (v := ?_) rfl (by kernel_rfl) (by kernel_rfl) (by kernel_rfl) (fun _ _ _ h => h) (Or.inl ⟨by rfl, ?_⟩) (by assumption) ?_
            rotate_left
            · intro w hSw; (try dsimp only at hSw); go_simp; try (with_reducible rfl)
            rotate_left 0
            try simp only [Act.put, List.setIfInBounds_toArray, List.set_cons_zero, List.set_cons_succ]
            refine wpAnyH_take (i := 1) (oi := ⟨some 56, _, _, _, _, _⟩) (v := ?_) rfl (by kernel_rfl) (by kernel_rfl) (by kernel_rfl) (fun _ _ _ h => h) (Or.inl ⟨by rfl, ?_⟩) (by assumption) ?_
            rotate_left
            · intro w hSw; (try dsimp only at hSw); go_simp; try (with_reducible rfl)
            rotate_left 0
            try simp only [Act.put, List.setIfInBounds_toArray, List.set_cons_zero, List.set_cons_succ]
            refine wpAnyH_take (i := 2) (oi := ⟨some 57, _, _, _, _, _⟩) (v := ?_) rfl (by kernel_rfl) (by kernel_rfl) (by kernel_rfl) (fun _ _ _ h => h) (Or.inl ⟨by rfl, ?_⟩) (by assumption) ?_
            rotate_left
            · intro w hSw; (try dsimp only at hSw); go_simp; try (with_reducible rfl)
            rotate_left 0
            try simp only [Act.put, List.setIfInBounds_toArray, List.set_cons_zero, List.set_cons_succ]
            refine wpAnyH_take (i := 3) (oi := ⟨some 58, _, _, _, _, _⟩) (v := (.agg (arr 32 fun i => bv (x i)))) rfl (by kernel_rfl) (by kernel_rfl) (by kernel_rfl) (fun _ _ _ h => h) (yieldsIf_load_at (by rfl) 30 _ rfl (ad.add (k * 32)) rfl 32 (fun i => bv (x i)) 5 (fun _ hS => hS) Tryd.underlying30 (by kernel_rfl)) (by assumption) ?_
            try simp only [Act.put, List.setIfInBounds_toArray, List.set_cons_zero, List.set_cons_succ]
            refine wpAnyH_take (i := 4) (oi := ⟨some 59, _, _, _, _, _⟩) (v := ?_) rfl (by kernel_rfl) (by kernel_rfl) (by kernel_rfl) (fun _ _ _ h => h) (Or.inl ⟨by rfl, ?_⟩) (by assumption) ?_
            rotate_left
            · intro w hSw; (try dsimp only at hSw); go_simp; try (with_reducible rfl)
            rotate_left 0
            try simp only [Act.put, List.setIfInBounds_toArray, List.set_cons_zero, List.set_cons_succ]
            refine wpAnyH_take (i := 5) (oi := ⟨some 60, _, _, _, _, _⟩) (v := ?_) rfl (by kernel_rfl) (by kernel_rfl) (by kernel_rfl) (fun _ _ _ h => h) (Or.inl ⟨by rfl, ?_⟩) (by assumption) ?_
            rotate_left
            · intro w hSw; (try dsimp only at hSw); go_simp; try (with_reducible rfl)
            rotate_left 0
            try simp only [Act.put, List.setIfInBounds_toArray, List.set_cons_zero, List.set_cons_succ]
            refine wpAnyH_take (i := 6) (oi := ⟨some 61, _, _, _, _, _⟩) (v := ?_) rfl (by kernel_rfl) (by kernel_rfl) (by kernel_rfl) (fun _ _ _ h => h) (Or.inl ⟨by rfl, ?_⟩) (by assumption) ?_
            rotate_left
            · intro w hSw; (try dsimp only at hSw); go_simp; try (with_reducible rfl)
            rotate_left 0
            try simp only [Act.put, List.setIfInBounds_toArray, List.set_cons_zero, List.set_cons_succ]
            refine wpAnyH_take (i := 7) (oi := ⟨some 62, _, _, _, _, _⟩) (v := (.agg (arr 32 fun i => bv (x i)))) rfl (by kernel_rfl) (by kernel_rfl) (by kernel_rfl) (fun _ _ _ h => h) (yieldsIf_load_at (by rfl) 30 _ rfl (ad.add (k * 32)) rfl 32 (fun i => bv (x i)) 5 (fun _ hS => hS) Tryd.underlying30 (by kernel_rfl)) (by assumption) ?_
            try simp only [Act.put, List.setIfInBounds_toArray, List.set_cons_zero, List.set_cons_succ]
            refine wpAnyH_ready (rs := [8]) (by kernel_rfl) (by simp) ?_
            refine (AllReadyH.cons (o := ⟨none, _, _, _, _, _⟩) rfl (fun K hK => ?_) AllReadyH.nil)
            (try rw [if_pos (by rfl)])
            refine wp_store_row 30 _ _ rfl b6 (arr 32 fun i => bv (x i)) rfl rfl 30 _ q12 (by rw [arr_size]; kernel_rfl) (by rw [arr_size, arr_size]) (arr_all_bv _ _) ?_
            replace q13 := Blk.setRow_far q13 (Ne.symm hne) (arr 32 fun i => bv (x i))
            replace q12 := Blk.setRow q12 (arr 32 fun i => bv (x i))
            replace qbX := below_setRow qbX hg6 (arr 32 fun i => bv (x i))
            try simp only [Act.put]
            try dsimp only
            refine hK.out _ _ (HLP.out _ (KB.out.trans (qbX.mono KB.out.size))) (fun hHeld => ?_)
            clear hK K
            try simp only [Act.put, List.setIfInBounds_toArray, List.set_cons_zero, List.set_cons_succ]
            refine wpAnyH_ready (rs := [9]) (by kernel_rfl) (by simp) ?_
            refine (AllReadyH.cons (o := ⟨none, _, _, _, _, _⟩) rfl (fun K hK => ?_) AllReadyH.nil)
            (try rw [if_pos (by rfl)])
            refine wp_store_row 30 _ _ rfl b7 (arr 32 fun i => bv (x i)) rfl rfl 30 _ q13 (by rw [arr_size]; kernel_rfl) (by rw [arr_size, arr_size]) (arr_all_bv _ _) ?_
            replace q12 := Blk.setRow_far q12 (hne) (arr 32 fun i => bv (x i))
            replace q13 := Blk.setRow q13 (arr 32 fun i => bv (x i))
            replace qbX := below_setRow qbX hg7 (arr 32 fun i => bv (x i))
            try simp only [Act.put]
            try dsimp only
            refine hK.out _ _ (HLP.out _ (KB.out.trans (qbX.mono KB.out.size))) (fun hHeld => ?_)
            clear hK K
            try simp only [Act.put, List.setIfInBounds_toArray, List.set_cons_zero, List.set_cons_succ]
            refine wpAnyH_done (by kernel_rfl) ?_ _
            have HE := Lib.hid (And.intro q12 (And.intro q13 qbX))
            have hle := HLE.out
            rw [if_pos HG.out] at hle
            have HLE2 := Lib.hid hle
            clear q12 q13 qbX hle
            go_wp2_with fail
            go_roundw
            case rel => exact ⟨k + 1, x, x, by omega, by go_num, HLE2.out, HE.out.1, HE.out.2.1, HE.out.2.2⟩
            case measure => simp [intOf]; omega
          · have deq : ((p.2 : Int) == (m : Int)) = false := by rw [beq_eq_false_iff_ne]; omega
            by_cases hltm : p.2 < m
            · have dlt : decide ((p.2 : Int) < (m : Int)) = true := decide_eq_true (by omega)
              have HG := Lib.hid (And.intro heq hltm)
              go_wp2_with (first
                | (guard_target = wpList _ _ _ (Oper.mk _ (.load 75 _) _ _ _ _ :: _) _ _; refine wpList_load_run rfl 75 _ rfl _ (.agg (ptc p)) rfl HLW.out ?_)
                | (refine wpList_store_arrW rfl 75 _ _ rfl wr.heap.size (ptc p) rfl rfl 75 _ (Blk.new wr _ _) (size_ptc _) rfl hone ?_; intro W3 hS3 hz3 hb3 hk3; have q13 : Below wr.heap.size wr W3 := ((Below.refl _ wr).alloc (Nat.le_refl _) _).trans hb3; have c31 : W3.cell? ⟨wr.heap.size, 1, none⟩ = some (.int .i64 (p.2 : Int)) := hS3.cell 1; have Q3 := Lib.hid q13; clear hS3 hz3 hb3 hk3 q13))
              have q12 : Blk W3.drew b6 30 (arr 32 fun i => bv (el i)) := H12.out.below Q3.out.drew H12.out.lt
              have q13 : Blk W3.drew b7 30 (arr 32 fun i => bv (nw i)) := H13.out.below Q3.out.drew H13.out.lt
              have qbX : Below W1.heap.size W1 W3.drew := HBX.out.trans (Q3.out.drew.mono HBX.out.size)
              obtain ⟨hne, hg6, hg7⟩ := HNEB.out
              clear c31
              refine wp_region_held_drew (S := fun W' => ∀ i, i < 32 → W'.cell? ((ad.add (k * 32)).add i) = some (bv (x i))) (by kernel_rfl) ?_ (fun hHeld => ?_)
              · exact HLP.out _ (KB.out.trans (qbX.mono KB.out.size))
              refine wpAnyH_take (i := 0) (oi := ⟨some 68, _, _, _, _, _⟩) (v := ?_) rfl (by kernel_rfl) (by kernel_rfl) (by kernel_rfl) (fun _ _ _ h => h) (Or.inl ⟨by rfl, ?_⟩) (by assumption) ?_
              rotate_left
              · intro w hSw; (try dsimp only at hSw); go_simp; try (with_reducible rfl)
              rotate_left 0
              try simp only [Act.put, List.setIfInBounds_toArray, List.set_cons_zero, List.set_cons_succ]
              refine wpAnyH_take (i := 1) (oi := ⟨some 69, _, _, _, _, _⟩) (v := ?_) rfl (by kernel_rfl) (by kernel_rfl) (by kernel_rfl) (fun _ _ _ h => h) (Or.inl ⟨by rfl, ?_⟩) (by assumption) ?_
              rotate_left
              · intro w hSw; (try dsimp only at hSw); go_simp; try (with_reducible rfl)
              rotate_left 0
              try simp only [Act.put, List.setIfInBounds_toArray, List.set_cons_zero, List.set_cons_succ]
              refine wpAnyH_take (i := 2) (oi := ⟨some 70, _, _, _, _, _⟩) (v := ?_) rfl (by kernel_rfl) (by kernel_rfl) (by kernel_rfl) (fun _ _ _ h => h) (Or.inl ⟨by rfl, ?_⟩) (by assumption) ?_
              rotate_left
              · intro w hSw; (try dsimp only at hSw); go_simp; try (with_reducible rfl)
              rotate_left 0
              try simp only [Act.put, List.setIfInBounds_toArray, List.set_cons_zero, List.set_cons_succ]
              refine wpAnyH_take (i := 3) (oi := ⟨some 71, _, _, _, _, _⟩) (v := (.agg (arr 32 fun i => bv (x i)))) rfl (by kernel_rfl) (by kernel_rfl) (by kernel_rfl) (fun _ _ _ h => h) (yieldsIf_load_at (by rfl) 30 _ rfl (ad.add (k * 32)) rfl 32 (fun i => bv (x i)) 5 (fun _ hS => hS) Tryd.underlying30 (by kernel_rfl)) (by assumption) ?_
              try simp only [Act.put, List.setIfInBounds_toArray, List.set_cons_zero, List.set_cons_succ]
              refine wpAnyH_take (i := 6) (oi := ⟨some 74, _, _, _, _, _⟩) (v := ?_) rfl (by kernel_rfl) (by kernel_rfl) (by kernel_rfl) (fun _ _ _ h => h) (Or.inl ⟨by rfl, ?_⟩) (by assumption) ?_
              rotate_left
              · intro w hSw; (try dsimp only at hSw); go_simp; try (with_reducible rfl)
              rotate_left 0
              try simp only [Act.put, List.setIfInBounds_toArray, List.set_cons_zero, List.set_cons_succ]
              refine wpAnyH_take (i := 7) (oi := ⟨some 75, _, _, _, _, _⟩) (v := ?_) rfl (by kernel_rfl) (by kernel_rfl) (by kernel_rfl) (fun _ _ _ h => h) (Or.inl ⟨by rfl, ?_⟩) (by assumption) ?_
              rotate_left
              · intro w hSw; (try dsimp only at hSw); go_simp; try (with_reducible rfl)
              rotate_left 0
              try simp only [Act.put, List.setIfInBounds_toArray, List.set_cons_zero, List.set_cons_succ]
              refine wpAnyH_take (i := 8) (oi := ⟨some 76, _, _, _, _, _⟩) (v := ?_) rfl (by kernel_rfl) (by kernel_rfl) (by kernel_rfl) (fun _ _ _ h => h) (Or.inl ⟨by rfl, ?_⟩) (by assumption) ?_
              rotate_left
              · intro w hSw; (try dsimp only at hSw); go_simp; try (with_reducible rfl)
              rotate_left 0
              try simp only [Act.put, List.setIfInBounds_toArray, List.set_cons_zero, List.set_cons_succ]
              refine wpAnyH_take (i := 9) (oi := ⟨some 77, _, _, _, _, _⟩) (v := (.agg (arr 32 fun i => bv (x i)))) rfl (by kernel_rfl) (by kernel_rfl) (by kernel_rfl) (fun _ _ _ h => h) (yieldsIf_load_at (by rfl) 30 _ rfl (ad.add (k * 32)) rfl 32 (fun i => bv (x i)) 5 (fun _ hS => hS) Tryd.underlying30 (by kernel_rfl)) (by assumption) ?_
              try simp only [Act.put, List.setIfInBounds_toArray, List.set_cons_zero, List.set_cons_succ]
              refine wpAnyH_ready (rs := [4, 10]) (by kernel_rfl) (by simp) ?_
              refine (AllReadyH.cons (o := ⟨some 72, _, _, _, _, _⟩) rfl (fun K hK => ?_) (AllReadyH.cons (o := ⟨some 78, _, _, _, _, _⟩) rfl (fun K hK => ?_) AllReadyH.nil))
              · (try rw [if_pos (by rfl)])
                refine oper_load 30 _ rfl _ _ rfl (load_blk q12) ?_
                try simp only [Act.put, List.setIfInBounds_toArray, List.set_cons_zero, List.set_cons_succ]
                try dsimp only
                refine hK.out _ _ (HLP.out _ (KB.out.trans (qbX.mono KB.out.size))) (fun hHeld => ?_)
                clear hK K
                try simp only [Act.put, List.setIfInBounds_toArray, List.set_cons_zero, List.set_cons_succ]
                refine wpAnyH_ready (rs := [5, 10]) (by kernel_rfl) (by simp) ?_
                refine (AllReadyH.cons (o := ⟨some 73, _, _, _, _, _⟩) rfl (fun K hK => ?_) (AllReadyH.cons (o := ⟨some 78, _, _, _, _, _⟩) rfl (fun K hK => ?_) AllReadyH.nil))
                · (try rw [if_pos (by rfl)])
                  go_simp
                  refine (HND.out (x) (el) _ (KB.out.trans (qbX.mono KB.out.size))).mono ?_
                  rintro e W5 ⟨rfl, hb5⟩
                  replace q12 := Blk.below q12 hb5 (Blk.lt q12)
                  replace q13 := Blk.below q13 hb5 (Blk.lt q13)
                  replace qbX := qbX.trans (hb5.mono qbX.size)
                  try dsimp only
                  refine hK.out _ _ (HLP.out _ (KB.out.trans (qbX.mono KB.out.size))) (fun hHeld => ?_)
                  clear hK K
                  try simp only [Act.put, List.setIfInBounds_toArray, List.set_cons_zero, List.set_cons_succ]
                  refine wpAnyH_ready (rs := [10]) (by kernel_rfl) (by simp) ?_
                  refine (AllReadyH.cons (o := ⟨some 78, _, _, _, _, _⟩) rfl (fun K hK => ?_) AllReadyH.nil)
                  (try rw [if_pos (by rfl)])
                  refine oper_load 30 _ rfl _ _ rfl (load_blk q13) ?_
                  try simp only [Act.put, List.setIfInBounds_toArray, List.set_cons_zero, List.set_cons_succ]
                  try dsimp only
                  refine hK.out _ _ (HLP.out _ (KB.out.trans (qbX.mono KB.out.size))) (fun hHeld => ?_)
                  clear hK K
                  try simp only [Act.put, List.setIfInBounds_toArray, List.set_cons_zero, List.set_cons_succ]
                  refine wpAnyH_ready (rs := [11]) (by kernel_rfl) (by simp) ?_
                  refine (AllReadyH.cons (o := ⟨some 79, _, _, _, _, _⟩) rfl (fun K hK => ?_) AllReadyH.nil)
                  (try rw [if_pos (by rfl)])
                  go_simp
                  refine (HND.out (x) (nw) _ (KB.out.trans (qbX.mono KB.out.size))).mono ?_
                  rintro e W5 ⟨rfl, hb5⟩
                  replace q12 := Blk.below q12 hb5 (Blk.lt q12)
                  replace q13 := Blk.below q13 hb5 (Blk.lt q13)
                  replace qbX := qbX.trans (hb5.mono qbX.size)
                  try dsimp only
                  refine hK.out _ _ (HLP.out _ (KB.out.trans (qbX.mono KB.out.size))) (fun hHeld => ?_)
                  clear hK K
                  try simp only [Act.put, List.setIfInBounds_toArray, List.set_cons_zero, List.set_cons_succ]
                  refine wpAnyH_ready (rs := [12]) (by kernel_rfl) (by simp) ?_
                  refine (AllReadyH.cons (o := ⟨none, _, _, _, _, _⟩) rfl (fun K hK => ?_) AllReadyH.nil)
                  (try rw [if_pos (by rfl)])
                  refine wp_store_row 30 _ _ rfl b6 (arr 32 fun i => bv (node x el i)) rfl rfl 30 _ q12 (by rw [arr_size]; kernel_rfl) (by rw [arr_size, arr_size]) (arr_all_bv _ _) ?_
                  replace q13 := Blk.setRow_far q13 (Ne.symm hne) (arr 32 fun i => bv (node x el i))
                  replace q12 := Blk.setRow q12 (arr 32 fun i => bv (node x el i))
                  replace qbX := below_setRow qbX hg6 (arr 32 fun i => bv (node x el i))
                  try simp only [Act.put]
                  try dsimp only
                  refine hK.out _ _ (HLP.out _ (KB.out.trans (qbX.mono KB.out.size))) (fun hHeld => ?_)
                  clear hK K
                  try simp only [Act.put, List.setIfInBounds_toArray, List.set_cons_zero, List.set_cons_succ]
                  refine wpAnyH_ready (rs := [13]) (by kernel_rfl) (by simp) ?_
                  refine (AllReadyH.cons (o := ⟨none, _, _, _, _, _⟩) rfl (fun K hK => ?_) AllReadyH.nil)
                  (try rw [if_pos (by rfl)])
                  refine wp_store_row 30 _ _ rfl b7 (arr 32 fun i => bv (node x nw i)) rfl rfl 30 _ q13 (by rw [arr_size]; kernel_rfl) (by rw [arr_size, arr_size]) (arr_all_bv _ _) ?_
                  replace q12 := Blk.setRow_far q12 (hne) (arr 32 fun i => bv (node x nw i))
                  replace q13 := Blk.setRow q13 (arr 32 fun i => bv (node x nw i))
                  replace qbX := below_setRow qbX hg7 (arr 32 fun i => bv (node x nw i))
                  try simp only [Act.put]
                  try dsimp only
                  refine hK.out _ _ (HLP.out _ (KB.out.trans (qbX.mono KB.out.size))) (fun hHeld => ?_)
                  clear hK K
                  try simp only [Act.put, List.setIfInBounds_toArray, List.set_cons_zero, List.set_cons_succ]
                  refine wpAnyH_done (by kernel_rfl) ?_ _
                  have HE := Lib.hid (And.intro q12 (And.intro q13 qbX))
                  have hle := HLE.out
                  rw [if_neg HG.out.1, if_pos HG.out.2] at hle
                  have HLE2 := Lib.hid hle
                  clear q12 q13 qbX hle
                  go_wp2_with fail
                  go_roundw
                  case rel => exact ⟨k + 1, (node x el), (node x nw), by omega, by go_num, HLE2.out, HE.out.1, HE.out.2.1, HE.out.2.2⟩
                  case measure => simp [intOf]; omega
                · (try rw [if_pos (by rfl)])
                  refine oper_load 30 _ rfl _ _ rfl (load_blk q13) ?_
                  try simp only [Act.put, List.setIfInBounds_toArray, List.set_cons_zero, List.set_cons_succ]
                  try dsimp only
                  refine hK.out _ _ (HLP.out _ (KB.out.trans (qbX.mono KB.out.size))) (fun hHeld => ?_)
                  clear hK K
                  try simp only [Act.put, List.setIfInBounds_toArray, List.set_cons_zero, List.set_cons_succ]
                  refine wpAnyH_ready (rs := [5]) (by kernel_rfl) (by simp) ?_
                  refine (AllReadyH.cons (o := ⟨some 73, _, _, _, _, _⟩) rfl (fun K hK => ?_) AllReadyH.nil)
                  (try rw [if_pos (by rfl)])
                  go_simp
                  refine (HND.out (x) (el) _ (KB.out.trans (qbX.mono KB.out.size))).mono ?_
                  rintro e W5 ⟨rfl, hb5⟩
                  replace q12 := Blk.below q12 hb5 (Blk.lt q12)
                  replace q13 := Blk.below q13 hb5 (Blk.lt q13)
                  replace qbX := qbX.trans (hb5.mono qbX.size)
                  try dsimp only
                  refine hK.out _ _ (HLP.out _ (KB.out.trans (qbX.mono KB.out.size))) (fun hHeld => ?_)
                  clear hK K
                  try simp only [Act.put, List.setIfInBounds_toArray, List.set_cons_zero, List.set_cons_succ]
                  refine wpAnyH_ready (rs := [11]) (by kernel_rfl) (by simp) ?_
                  refine (AllReadyH.cons (o := ⟨some 79, _, _, _, _, _⟩) rfl (fun K hK => ?_) AllReadyH.nil)
                  (try rw [if_pos (by rfl)])
                  go_simp
                  refine (HND.out (x) (nw) _ (KB.out.trans (qbX.mono KB.out.size))).mono ?_
                  rintro e W5 ⟨rfl, hb5⟩
                  replace q12 := Blk.below q12 hb5 (Blk.lt q12)
                  replace q13 := Blk.below q13 hb5 (Blk.lt q13)
                  replace qbX := qbX.trans (hb5.mono qbX.size)
                  try dsimp only
                  refine hK.out _ _ (HLP.out _ (KB.out.trans (qbX.mono KB.out.size))) (fun hHeld => ?_)
                  clear hK K
                  try simp only [Act.put, List.setIfInBounds_toArray, List.set_cons_zero, List.set_cons_succ]
                  refine wpAnyH_ready (rs := [12]) (by kernel_rfl) (by simp) ?_
                  refine (AllReadyH.cons (o := ⟨none, _, _, _, _, _⟩) rfl (fun K hK => ?_) AllReadyH.nil)
                  (try rw [if_pos (by rfl)])
                  refine wp_store_row 30 _ _ rfl b6 (arr 32 fun i => bv (node x el i)) rfl rfl 30 _ q12 (by rw [arr_size]; kernel_rfl) (by rw [arr_size, arr_size]) (arr_all_bv _ _) ?_
                  replace q13 := Blk.setRow_far q13 (Ne.symm hne) (arr 32 fun i => bv (node x el i))
                  replace q12 := Blk.setRow q12 (arr 32 fun i => bv (node x el i))
                  replace qbX := below_setRow qbX hg6 (arr 32 fun i => bv (node x el i))
                  try simp only [Act.put]
                  try dsimp only
                  refine hK.out _ _ (HLP.out _ (KB.out.trans (qbX.mono KB.out.size))) (fun hHeld => ?_)
                  clear hK K
                  try simp only [Act.put, List.setIfInBounds_toArray, List.set_cons_zero, List.set_cons_succ]
                  refine wpAnyH_ready (rs := [13]) (by kernel_rfl) (by simp) ?_
                  refine (AllReadyH.cons (o := ⟨none, _, _, _, _, _⟩) rfl (fun K hK => ?_) AllReadyH.nil)
                  (try rw [if_pos (by rfl)])
                  refine wp_store_row 30 _ _ rfl b7 (arr 32 fun i => bv (node x nw i)) rfl rfl 30 _ q13 (by rw [arr_size]; kernel_rfl) (by rw [arr_size, arr_size]) (arr_all_bv _ _) ?_
                  replace q12 := Blk.setRow_far q12 (hne) (arr 32 fun i => bv (node x nw i))
                  replace q13 := Blk.setRow q13 (arr 32 fun i => bv (node x nw i))
                  replace qbX := below_setRow qbX hg7 (arr 32 fun i => bv (node x nw i))
                  try simp only [Act.put]
                  try dsimp only
                  refine hK.out _ _ (HLP.out _ (KB.out.trans (qbX.mono KB.out.size))) (fun hHeld => ?_)
                  clear hK K
                  try simp only [Act.put, List.setIfInBounds_toArray, List.set_cons_zero, List.set_cons_succ]
                  refine wpAnyH_done (by kernel_rfl) ?_ _
                  have HE := Lib.hid (And.intro q12 (And.intro q13 qbX))
                  have hle := HLE.out
                  rw [if_neg HG.out.1, if_pos HG.out.2] at hle
                  have HLE2 := Lib.hid hle
                  clear q12 q13 qbX hle
                  go_wp2_with fail
                  go_roundw
                  case rel => exact ⟨k + 1, (node x el), (node x nw), by omega, by go_num, HLE2.out, HE.out.1, HE.out.2.1, HE.out.2.2⟩
                  case measure => simp [intOf]; omega
              · (try rw [if_pos (by rfl)])
                refine oper_load 30 _ rfl _ _ rfl (load_blk q13) ?_
                try simp only [Act.put, List.setIfInBounds_toArray, List.set_cons_zero, List.set_cons_succ]
                try dsimp only
                refine hK.out _ _ (HLP.out _ (KB.out.trans (qbX.mono KB.out.size))) (fun hHeld => ?_)
                clear hK K
                try simp only [Act.put, List.setIfInBounds_toArray, List.set_cons_zero, List.set_cons_succ]
                refine wpAnyH_ready (rs := [4]) (by kernel_rfl) (by simp) ?_
                refine (AllReadyH.cons (o := ⟨some 72, _, _, _, _, _⟩) rfl (fun K hK => ?_) AllReadyH.nil)
                (try rw [if_pos (by rfl)])
                refine oper_load 30 _ rfl _ _ rfl (load_blk q12) ?_
                try simp only [Act.put, List.setIfInBounds_toArray, List.set_cons_zero, List.set_cons_succ]
                try dsimp only
                refine hK.out _ _ (HLP.out _ (KB.out.trans (qbX.mono KB.out.size))) (fun hHeld => ?_)
                clear hK K
                try simp only [Act.put, List.setIfInBounds_toArray, List.set_cons_zero, List.set_cons_succ]
                refine wpAnyH_ready (rs := [5]) (by kernel_rfl) (by simp) ?_
                refine (AllReadyH.cons (o := ⟨some 73, _, _, _, _, _⟩) rfl (fun K hK => ?_) AllReadyH.nil)
                (try rw [if_pos (by rfl)])
                go_simp
                refine (HND.out (x) (el) _ (KB.out.trans (qbX.mono KB.out.size))).mono ?_
                rintro e W5 ⟨rfl, hb5⟩
                replace q12 := Blk.below q12 hb5 (Blk.lt q12)
                replace q13 := Blk.below q13 hb5 (Blk.lt q13)
                replace qbX := qbX.trans (hb5.mono qbX.size)
                try dsimp only
                refine hK.out _ _ (HLP.out _ (KB.out.trans (qbX.mono KB.out.size))) (fun hHeld => ?_)
                clear hK K
                try simp only [Act.put, List.setIfInBounds_toArray, List.set_cons_zero, List.set_cons_succ]
                refine wpAnyH_ready (rs := [11]) (by kernel_rfl) (by simp) ?_
                refine (AllReadyH.cons (o := ⟨some 79, _, _, _, _, _⟩) rfl (fun K hK => ?_) AllReadyH.nil)
                (try rw [if_pos (by rfl)])
                go_simp
                refine (HND.out (x) (nw) _ (KB.out.trans (qbX.mono KB.out.size))).mono ?_
                rintro e W5 ⟨rfl, hb5⟩
                replace q12 := Blk.below q12 hb5 (Blk.lt q12)
                replace q13 := Blk.below q13 hb5 (Blk.lt q13)
                replace qbX := qbX.trans (hb5.mono qbX.size)
                try dsimp only
                refine hK.out _ _ (HLP.out _ (KB.out.trans (qbX.mono KB.out.size))) (fun hHeld => ?_)
                clear hK K
                try simp only [Act.put, List.setIfInBounds_toArray, List.set_cons_zero, List.set_cons_succ]
                refine wpAnyH_ready (rs := [12]) (by kernel_rfl) (by simp) ?_
                refine (AllReadyH.cons (o := ⟨none, _, _, _, _, _⟩) rfl (fun K hK => ?_) AllReadyH.nil)
                (try rw [if_pos (by rfl)])
                refine wp_store_row 30 _ _ rfl b6 (arr 32 fun i => bv (node x el i)) rfl rfl 30 _ q12 (by rw [arr_size]; kernel_rfl) (by rw [arr_size, arr_size]) (arr_all_bv _ _) ?_
                replace q13 := Blk.setRow_far q13 (Ne.symm hne) (arr 32 fun i => bv (node x el i))
                replace q12 := Blk.setRow q12 (arr 32 fun i => bv (node x el i))
                replace qbX := below_setRow qbX hg6 (arr 32 fun i => bv (node x el i))
                try simp only [Act.put]
                try dsimp only
                refine hK.out _ _ (HLP.out _ (KB.out.trans (qbX.mono KB.out.size))) (fun hHeld => ?_)
                clear hK K
                try simp only [Act.put, List.setIfInBounds_toArray, List.set_cons_zero, List.set_cons_succ]
                refine wpAnyH_ready (rs := [13]) (by kernel_rfl) (by simp) ?_
                refine (AllReadyH.cons (o := ⟨none, _, _, _, _, _⟩) rfl (fun K hK => ?_) AllReadyH.nil)
                (try rw [if_pos (by rfl)])
                refine wp_store_row 30 _ _ rfl b7 (arr 32 fun i => bv (node x nw i)) rfl rfl 30 _ q13 (by rw [arr_size]; kernel_rfl) (by rw [arr_size, arr_size]) (arr_all_bv _ _) ?_
                replace q12 := Blk.setRow_far q12 (hne) (arr 32 fun i => bv (node x nw i))
                replace q13 := Blk.setRow q13 (arr 32 fun i => bv (node x nw i))
                replace qbX := below_setRow qbX hg7 (arr 32 fun i => bv (node x nw i))
                try simp only [Act.put]
                try dsimp only
                refine hK.out _ _ (HLP.out _ (KB.out.trans (qbX.mono KB.out.size))) (fun hHeld => ?_)
                clear hK K
                try simp only [Act.put, List.setIfInBounds_toArray, List.set_cons_zero, List.set_cons_succ]
                refine wpAnyH_done (by kernel_rfl) ?_ _
                have HE := Lib.hid (And.intro q12 (And.intro q13 qbX))
                have hle := HLE.out
                rw [if_neg HG.out.1, if_pos HG.out.2] at hle
                have HLE2 := Lib.hid hle
                clear q12 q13 qbX hle
                go_wp2_with fail
                go_roundw
                case rel => exact ⟨k + 1, (node x el), (node x nw), by omega, by go_num, HLE2.out, HE.out.1, HE.out.2.1, HE.out.2.2⟩
                case measure => simp [intOf]; omega
            · have dlt : decide ((p.2 : Int) < (m : Int)) = false := decide_eq_false (by omega)
              have HG := Lib.hid (And.intro heq hltm)
              go_wp2_with (first
                | (guard_target = wpList _ _ _ (Oper.mk _ (.load 75 _) _ _ _ _ :: _) _ _; refine wpList_load_run rfl 75 _ rfl _ (.agg (ptc p)) rfl HLW.out ?_)
                | (refine wpList_store_arrW rfl 75 _ _ rfl wr.heap.size (ptc p) rfl rfl 75 _ (Blk.new wr _ _) (size_ptc _) rfl hone ?_; intro W3 hS3 hz3 hb3 hk3; have q13 : Below wr.heap.size wr W3 := ((Below.refl _ wr).alloc (Nat.le_refl _) _).trans hb3; have c31 : W3.cell? ⟨wr.heap.size, 1, none⟩ = some (.int .i64 (p.2 : Int)) := hS3.cell 1; have Q3 := Lib.hid q13; clear hS3 hz3 hb3 hk3 q13))
              have q12 : Blk W3.drew b6 30 (arr 32 fun i => bv (el i)) := H12.out.below Q3.out.drew H12.out.lt
              have q13 : Blk W3.drew b7 30 (arr 32 fun i => bv (nw i)) := H13.out.below Q3.out.drew H13.out.lt
              have qbX : Below W1.heap.size W1 W3.drew := HBX.out.trans (Q3.out.drew.mono HBX.out.size)
              obtain ⟨hne, hg6, hg7⟩ := HNEB.out
              clear c31
              refine wp_region_held_drew (S := fun W' => ∀ i, i < 32 → W'.cell? ((ad.add (k * 32)).add i) = some (bv (x i))) (by kernel_rfl) ?_ (fun hHeld => ?_)
              · exact HLP.out _ (KB.out.trans (qbX.mono KB.out.size))
              refine wpAnyH_take (i := 1) (oi := ⟨some 45, _, _, _, _, _⟩) (v := ?_) rfl (by kernel_rfl) (by kernel_rfl) (by kernel_rfl) (fun _ _ _ h => h) (Or.inl ⟨by rfl, ?_⟩) (by assumption) ?_
              rotate_left
              · intro w hSw; (try dsimp only at hSw); go_simp; try (with_reducible rfl)
              rotate_left 0
              try simp only [Act.put, List.setIfInBounds_toArray, List.set_cons_zero, List.set_cons_succ]
              refine wpAnyH_take (i := 2) (oi := ⟨some 46, _, _, _, _, _⟩) (v := ?_) rfl (by kernel_rfl) (by kernel_rfl) (by kernel_rfl) (fun _ _ _ h => h) (Or.inl ⟨by rfl, ?_⟩) (by assumption) ?_
              rotate_left
              · intro w hSw; (try dsimp only at hSw); go_simp; try (with_reducible rfl)
              rotate_left 0
              try simp only [Act.put, List.setIfInBounds_toArray, List.set_cons_zero, List.set_cons_succ]
              refine wpAnyH_take (i := 3) (oi := ⟨some 47, _, _, _, _, _⟩) (v := ?_) rfl (by kernel_rfl) (by kernel_rfl) (by kernel_rfl) (fun _ _ _ h => h) (Or.inl ⟨by rfl, ?_⟩) (by assumption) ?_
              rotate_left
              · intro w hSw; (try dsimp only at hSw); go_simp; try (with_reducible rfl)
              rotate_left 0
              try simp only [Act.put, List.setIfInBounds_toArray, List.set_cons_zero, List.set_cons_succ]
              refine wpAnyH_take (i := 4) (oi := ⟨some 48, _, _, _, _, _⟩) (v := (.agg (arr 32 fun i => bv (x i)))) rfl (by kernel_rfl) (by kernel_rfl) (by kernel_rfl) (fun _ _ _ h => h) (yieldsIf_load_at (by rfl) 30 _ rfl (ad.add (k * 32)) rfl 32 (fun i => bv (x i)) 5 (fun _ hS => hS) Tryd.underlying30 (by kernel_rfl)) (by assumption) ?_
              try simp only [Act.put, List.setIfInBounds_toArray, List.set_cons_zero, List.set_cons_succ]
              refine wpAnyH_ready (rs := [0]) (by kernel_rfl) (by simp) ?_
              refine (AllReadyH.cons (o := ⟨some 44, _, _, _, _, _⟩) rfl (fun K hK => ?_) AllReadyH.nil)
              (try rw [if_pos (by rfl)])
              refine oper_load 30 _ rfl _ _ rfl (load_blk q13) ?_
              try simp only [Act.put, List.setIfInBounds_toArray, List.set_cons_zero, List.set_cons_succ]
              try dsimp only
              refine hK.out _ _ (HLP.out _ (KB.out.trans (qbX.mono KB.out.size))) (fun hHeld => ?_)
              clear hK K
              try simp only [Act.put, List.setIfInBounds_toArray, List.set_cons_zero, List.set_cons_succ]
              refine wpAnyH_ready (rs := [5]) (by kernel_rfl) (by simp) ?_
              refine (AllReadyH.cons (o := ⟨some 49, _, _, _, _, _⟩) rfl (fun K hK => ?_) AllReadyH.nil)
              (try rw [if_pos (by rfl)])
              go_simp
              refine (HND.out (nw) (x) _ (KB.out.trans (qbX.mono KB.out.size))).mono ?_
              rintro e W5 ⟨rfl, hb5⟩
              replace q12 := Blk.below q12 hb5 (Blk.lt q12)
              replace q13 := Blk.below q13 hb5 (Blk.lt q13)
              replace qbX := qbX.trans (hb5.mono qbX.size)
              try dsimp only
              refine hK.out _ _ (HLP.out _ (KB.out.trans (qbX.mono KB.out.size))) (fun hHeld => ?_)
              clear hK K
              try simp only [Act.put, List.setIfInBounds_toArray, List.set_cons_zero, List.set_cons_succ]
              refine wpAnyH_ready (rs := [6]) (by kernel_rfl) (by simp) ?_
              refine (AllReadyH.cons (o := ⟨none, _, _, _, _, _⟩) rfl (fun K hK => ?_) AllReadyH.nil)
              (try rw [if_pos (by rfl)])
              refine wp_store_row 30 _ _ rfl b7 (arr 32 fun i => bv (node nw x i)) rfl rfl 30 _ q13 (by rw [arr_size]; kernel_rfl) (by rw [arr_size, arr_size]) (arr_all_bv _ _) ?_
              replace q12 := Blk.setRow_far q12 (hne) (arr 32 fun i => bv (node nw x i))
              replace q13 := Blk.setRow q13 (arr 32 fun i => bv (node nw x i))
              replace qbX := below_setRow qbX hg7 (arr 32 fun i => bv (node nw x i))
              try simp only [Act.put]
              try dsimp only
              refine hK.out _ _ (HLP.out _ (KB.out.trans (qbX.mono KB.out.size))) (fun hHeld => ?_)
              clear hK K
              try simp only [Act.put, List.setIfInBounds_toArray, List.set_cons_zero, List.set_cons_succ]
              refine wpAnyH_done (by kernel_rfl) ?_ _
              have HE := Lib.hid (And.intro q12 (And.intro q13 qbX))
              have hle := HLE.out
              rw [if_neg HG.out.1, if_neg HG.out.2] at hle
              have HLE2 := Lib.hid hle
              clear q12 q13 qbX hle
              go_wp2_with fail
              go_roundw
              case rel => exact ⟨k + 1, el, (node nw x), by omega, by go_num, HLE2.out, HE.out.1, HE.out.2.1, HE.out.2.2⟩
              case measure => simp [intOf]; omega
        · obtain rfl : k = n := by omega
          rw [bothP_end (by rw [HWL.out]; exact Nat.le_refl _), Prod.mk.injEq] at hlead
          obtain ⟨rfl, rfl⟩ := hlead
          have l12 := load_blk h12
          have l13 := load_blk h13
          have l5 := load_blk (K5.out.below hb K5.out.lt)
          have l9 := load_blk (K9.out.below hb K9.out.lt)
          have HL := Lib.hid (And.intro l12 (And.intro l13 (And.intro l5 l9)))
          have HB := Lib.hid (KB.out.trans (hb.mono KB.out.size))
          obtain ⟨ne1, ne2⟩ := HNE.out
          clear h12 h13 hb l12 l13 l5 l9
          generalize (arr 32 fun i => bv (el i)) = ve at *
          generalize (arr 32 fun i => bv (nw i)) = vn at *
          generalize (arr 32 fun i => bv (one i)) = vo at *
          generalize (arr 32 fun i => bv (two i)) = vt at *
          cases β1 with
          | true =>
            cases β2 with
            | true =>
              simp only [Bool.not_true] at ne1 ne2
              go_wp2_with (first
                | (refine wpList_load_runG (by rfl) 30 _ rfl (.pointer (some ⟨b6, 0, none⟩)) _ rfl HL.out.1 ?_)
                | (refine wpList_load_runG (by rfl) 30 _ rfl (.pointer (some ⟨b7, 0, none⟩)) _ rfl HL.out.2.1 ?_)
                | (refine wpList_load_runG (by rfl) 30 _ rfl (.pointer (some ⟨w.heap.size, 0, none⟩)) _ rfl HL.out.2.2.1 ?_)
                | (refine wpList_load_runG (by rfl) 30 _ rfl (.pointer (some ⟨w.heap.size + 1, 0, none⟩)) _ rfl HL.out.2.2.2 ?_))
              go_ret
              exact ⟨by simp, HB.out⟩
            | false =>
              simp only [Bool.not_true, Bool.not_false] at ne1 ne2
              go_wp2_with (first
                | (refine wpList_load_runG (by rfl) 30 _ rfl (.pointer (some ⟨b6, 0, none⟩)) _ rfl HL.out.1 ?_)
                | (refine wpList_load_runG (by rfl) 30 _ rfl (.pointer (some ⟨b7, 0, none⟩)) _ rfl HL.out.2.1 ?_)
                | (refine wpList_load_runG (by rfl) 30 _ rfl (.pointer (some ⟨w.heap.size, 0, none⟩)) _ rfl HL.out.2.2.1 ?_)
                | (refine wpList_load_runG (by rfl) 30 _ rfl (.pointer (some ⟨w.heap.size + 1, 0, none⟩)) _ rfl HL.out.2.2.2 ?_))
              go_ret
              exact ⟨by simp, HB.out⟩
          | false =>
            simp only [Bool.not_false] at ne1
            clear ne2
            cases β2 with
            | true =>
              clear HNE
              go_wp2_with (first
                | (guard_target = wpList _ _ _ (Oper.mk _ (.load _ (.tmp 12)) _ _ _ _ :: _) _ _; refine wpList_load_runG (by rfl) 30 _ rfl (.pointer (some ⟨b6, 0, none⟩)) _ rfl HL.out.1 ?_)
                | (guard_target = wpList _ _ _ (Oper.mk _ (.load _ (.tmp 7)) _ _ _ _ :: _) _ _; refine wpList_load_runG (by rfl) 30 _ rfl (.pointer (some ⟨w.heap.size, 0, none⟩)) _ rfl HL.out.2.2.1 ?_))
              go_ret
              exact ⟨by simp, HB.out⟩
            | false =>
              clear HNE
              go_wp2_with (first
                | (guard_target = wpList _ _ _ (Oper.mk _ (.load _ (.tmp 12)) _ _ _ _ :: _) _ _; refine wpList_load_runG (by rfl) 30 _ rfl (.pointer (some ⟨b6, 0, none⟩)) _ rfl HL.out.1 ?_)
                | (guard_target = wpList _ _ _ (Oper.mk _ (.load _ (.tmp 7)) _ _ _ _ :: _) _ _; refine wpList_load_runG (by rfl) 30 _ rfl (.pointer (some ⟨w.heap.size, 0, none⟩)) _ rfl HL.out.2.2.1 ?_))
              go_ret
              exact ⟨by simp, HB.out⟩
  · rw [if_pos hnN]
    have dn : ((n : Int) == (N : Int)) = false := by rw [beq_eq_false_iff_ne]; omega
    go_enter Tryd.func29, Tryd.ntmps29
    go_wp2_with (go_at_call 42; refine (HWO.out _).mono ?_; rintro e W1 ⟨Aw, cw, rfl, ho1, hb1⟩; have KB := Lib.hid (HB0.out.trans (hb1.mono HB0.out.size)); clear ho1 hb1)
    go_ret
    exact ⟨rfl, KB.out⟩
theorem ccon_any (one two : D) (m size : Int) (v : Value) (path : List D) (w : World) (hT : Tables w) (hr : RdI w (fun b => b < w.heap.size) v path) :
    Calls Tryd.prog 29 #[.int .i64 m, .int .i64 size, .agg (arr 32 fun i => bv (one i)), .agg (arr 32 fun i => bv (two i)), v] w fun e w' => e = .returned (.int .i64 (cconV m size one two path)) ∧ Below w.heap.size w w' := by
  by_cases h : m < 1 ∨ size < m ∨ 1099511627776 < size
  · have e : cconV m size one two path = 1 := by unfold cconV; rw [if_pos h]
    rw [e]
    exact ccon_range one two m size h v w
  · obtain ⟨m', rfl⟩ := Int.eq_ofNat_of_zero_le (show 0 ≤ m by omega)
    obtain ⟨s', rfl⟩ := Int.eq_ofNat_of_zero_le (show 0 ≤ size by omega)
    exact ccon_in one two m' s' (by omega) (by omega) (by omega) v path w hT hr
end Go.Proofs.YtphknicdllcbmaaDoor
