/-
  slices.Reverse of parts. No condition.
-/
import Derived.Test.YtphknicdllcbmaaDoorPrfRow
namespace Go.Proofs.YtphknicdllcbmaaDoor
open Go Go.RowKit Go.Shelf TreeM

/-- A row's cells, by its parts. -/
def rowPt (n : Nat) (F : Nat → Value) (m : Nat → Pt) (i : Nat) : Value := if i < 2 * n then (if i % 2 = 0 then .int .i64 ((m (i / 2)).1 : Int) else .int .i64 ((m (i / 2)).2 : Int)) else F i
def updP (m : Nat → Pt) (x : Nat) (p : Pt) (y : Nat) : Pt := if y = x then p else m y
theorem rowPt_upd (n : Nat) (F : Nat → Value) (m : Nat → Pt) (x : Nat) (p : Pt) (hx : x < n) (i : Nat) : (if x * 2 ≤ i ∧ i < x * 2 + 2 then (fun j => if j = 0 then (.int .i64 (p.1 : Int) : Value) else .int .i64 (p.2 : Int)) (i - x * 2) else rowPt n F m i) = rowPt n F (updP m x p) i := by
  unfold rowPt updP
  by_cases h : x * 2 ≤ i ∧ i < x * 2 + 2
  · have e : i / 2 = x := by omega
    rw [if_pos h, if_pos (by omega), e, if_pos rfl]
    by_cases h0 : i % 2 = 0
    · rw [if_pos h0]
      exact if_pos (by omega)
    · rw [if_neg h0]
      exact if_neg (by omega)
  · have e : i / 2 ≠ x := by omega
    rw [if_neg h, if_neg e]
theorem rowPt_congr {n : Nat} {F : Nat → Value} {m m' : Nat → Pt} (h : ∀ y, y < n → m y = m' y) (i : Nat) : rowPt n F m i = rowPt n F m' i := by
  unfold rowPt
  by_cases hi : i < 2 * n
  · rw [if_pos hi, if_pos hi, h (i / 2) (by omega)]
  · rw [if_neg hi, if_neg hi]
theorem ptc_arr (p : Pt) : ptc p = arr 2 fun j => if j = 0 then (.int .i64 (p.1 : Int) : Value) else .int .i64 (p.2 : Int) := by
  rw [arr_list]; rfl
theorem oper_store_pt {P : Program} {o : Oper} {a : Act} {w : World} {K : Act → World → Prop} {Q : Exit → Act → World → Prop} {ty : TypeId} (_hty : ty = 75) (x y : Operand) (ho : o.op = .store ty x y)
    (g N n k off : Nat) (F : Nat → Value) (m : Nat → Pt) (p : Pt) (hx : a.eval x = .pointer (some ⟨g, off, none⟩)) (hoff : off = k * 2) (hy : a.eval y = .agg (ptc p))
    (hg : Blk w g 75 (arr N (rowPt n F m))) (hk : k < n) (hn : 2 * n ≤ N) (hi : (P.info? ty).map (·.size) = some 2)
    (h : ∀ w', Blk w' g 75 (arr N (rowPt n F (updP m k p))) → w'.heap.size = w.heap.size → Turn (fun b => b = g) w w' → K (a.put o.dst undef) w') : o.wp P a w K Q := by
  unfold Oper.wp
  subst hoff
  have hl : (ptc p).toList = (List.range 2).map fun j => if j = 0 then (.int .i64 (p.1 : Int) : Value) else .int .i64 (p.2 : Int) := by rw [ptc_arr, arr_list]
  have hst := run_storeCells_at (P := P) g (k * 2) 75 ((List.range 2).map fun j => if j = 0 then (.int .i64 (p.1 : Int) : Value) else .int .i64 (p.2 : Int)) 0 (arr N (rowPt n F m)) w hg (by rw [List.length_map, List.length_range, arr_size]; omega) (fun v hv => by
    simp only [List.mem_map, List.mem_range] at hv
    obtain ⟨j, hj, rfl⟩ := hv
    split <;> rfl)
  rw [List.append_assoc, Nat.add_zero, List.length_map, List.length_range, splice_arr N (k * 2) 2 (rowPt n F m) (fun j => if j = 0 then (.int .i64 (p.1 : Int) : Value) else .int .i64 (p.2 : Int)) (by omega)] at hst
  rw [arr_congr (fun i _ => rowPt_upd n F m k p hk i)] at hst
  cases hq : P.info? ty with
  | none => simp [hq] at hi
  | some i =>
    have hs : 2 = i.size := by simp [hq] at hi; omega
    have hsz : (ptc p).size = i.size := by rw [← hs]; rfl
    have := h _ (hg.setRow _) (size_setRow _ _ _) ⟨rfl, rfl, rfl, by rw [size_setRow]; exact Nat.le_refl _, fun b _ hb => setRow_other w g b _ hb⟩
    simp [execOp, ho, hx, hy, Instr.storeAt, Instr.sureAddr, Sem.run_bind, storeVar, sizeOf, typeInfo, hq, Value.cells, hsz, hl, hst, Result.andThen, Oper.upon]
    exact this
theorem load_pt {w : World} {G N n x : Nat} {F : Nat → Value} {m : Nat → Pt} (h : Blk w G 75 (arr N (rowPt n F m))) (hx : x < n) (hn : 2 * n ≤ N) :
    (Instr.loadAt 75 (.pointer (some ⟨G, x * 2, none⟩))).run Tryd.prog w = .ok (.agg (ptc (m x))) w := by
  have := run_loadAt_mid (P := Tryd.prog) w G (x * 2) 75 (ptc (m x)).toList _ (fun j v hv => by
    have hj : j < 2 := (List.getElem?_eq_some_iff.1 hv).1
    rw [h.cell, arr_get, if_pos (by omega), ← hv]
    unfold rowPt
    rw [if_pos (by omega)]
    have e : (x * 2 + j) / 2 = x := by omega
    rw [e]
    have hj2 : j = 0 ∨ j = 1 := by omega
    rcases hj2 with rfl | rfl
    · rw [if_pos (by omega)]; rfl
    · rw [if_neg (by omega)]; rfl) Tryd.underlying75 rfl (by kernel_rfl)
  rw [Array.toArray_toList] at this
  exact this
/-- Swapped from both ends. -/
def mk (n : Nat) (l : Nat → Pt) (k y : Nat) : Pt := if y < n ∧ (y < k ∨ n ≤ y + k) then l (n - 1 - y) else l y
theorem mk_step (n k : Nat) (l : Nat → Pt) (h : 2 * k + 1 < n) (i : Nat) (F : Nat → Value) : rowPt n F (updP (updP (mk n l k) k (l (n - 1 - k))) (n - 1 - k) (l k)) i = rowPt n F (mk n l (k + 1)) i := by
  unfold rowPt
  by_cases hi : i < 2 * n
  · have hy : i / 2 < n := by omega
    have e : updP (updP (mk n l k) k (l (n - 1 - k))) (n - 1 - k) (l k) (i / 2) = mk n l (k + 1) (i / 2) := by
      generalize i / 2 = y at hy
      unfold updP mk
      by_cases h1 : y = n - 1 - k
      · rw [if_pos h1, if_pos ⟨hy, by omega⟩]
        congr 1
        omega
      · rw [if_neg h1]
        by_cases h2 : y = k
        · rw [if_pos h2, if_pos ⟨hy, by omega⟩, h2]
        · rw [if_neg h2]
          by_cases h3 : y < n ∧ (y < k ∨ n ≤ y + k)
          · rw [if_pos h3, if_pos ⟨hy, by omega⟩]
          · rw [if_neg h3, if_neg (by omega)]
    rw [e]
  · rw [if_neg hi, if_neg hi]
theorem ptCells_at (L : List Pt) (i : Nat) (h : i < 2 * L.length) (F : Nat → Value) : (ptCells L)[i]? = some (rowPt L.length F (fun y => L.getD y (0, 0)) i) := by
  have hk : i / 2 < L.length := by omega
  have := ptCells_get L (i / 2) (i % 2) hk (by omega)
  rw [show 2 * (i / 2) + i % 2 = i from by omega] at this
  rw [this]
  unfold rowPt
  rw [if_pos h]
  have e : L.getD (i / 2) (0, 0) = L[i / 2] := by rw [List.getD_eq_getElem?_getD, List.getElem?_eq_getElem hk]; rfl
  dsimp only
  rw [e]
  have hj2 : i % 2 = 0 ∨ i % 2 = 1 := by omega
  rcases hj2 with e | e <;> rw [e] <;> rfl
set_option maxRecDepth 100000 in
set_option maxHeartbeats 1000000 in
theorem reverse_any {w : World} {B n : Nat} {v : Value} {L : List Pt} (ho : w.ownsRow B 75 2 v n (ptCells L)) (hn1 : n ≤ 1000000) :
    Calls Tryd.prog 54 #[v] w fun e w' => e = .returned (.tuple #[]) ∧ w'.ownsRow B 75 2 v n (ptCells L.reverse) ∧ Turn (fun i => v.ownBlock = some i) w w' := by
  have hL : L.length = n := by
    have := ho.1
    rw [ptCells_length] at this
    omega
  obtain ⟨A, c, rfl, hc⟩ := own_len ho
  rcases Nat.eq_zero_or_pos n with h0 | h0
  · subst h0
    have hl := List.length_eq_zero_iff.1 hL
    subst hl
    have HO := Lib.hid ho
    clear ho
    go_enter Tryd.func54, Tryd.ntmps54
    go_wp2
    go_loopw [2, 3] (fun i j wr => i = .int .i64 0 ∧ j = .int .i64 (-1) ∧ wr = w) (fun _ _ _ => 0)
    case atStart => exact ⟨rfl, rfl, rfl⟩
    case round =>
      obtain ⟨rfl, rfl, rfl⟩ := hrel
      go_wp2
      go_end0
      exact ⟨rfl, HO.out, Turn.refl _ _⟩
  · obtain ⟨G, rfl⟩ := own_addrN ho h0
    have ho2 := ho
    rcases ho.2 with ⟨hv, h00⟩ | ⟨g, cap, cur, hv, hB, hg, hnc, hcap, hmx, hxs⟩
    · omega
    injection hv with e1 e2 e3
    injection e1 with e1
    injection e1 with e1
    subst e1; subst e3
    obtain ⟨N, hN⟩ : ∃ N, cur.size = N := ⟨_, rfl⟩
    obtain ⟨l, hl⟩ : ∃ l : Nat → Pt, (fun y => L.getD y (0, 0)) = l := ⟨_, rfl⟩
    obtain ⟨F, hF⟩ : ∃ F : Nat → Value, (fun i => (cur[i]?).getD undef) = F := ⟨_, rfl⟩
    have hnN : 2 * n ≤ N := by omega
    have hcur : cur = arr N (rowPt n F l) := by
      refine arr_of _ _ _ hN (fun i hi => ?_)
      by_cases h2 : i < 2 * n
      · have e1 : (List.take (n * 2) cur.toList)[i]? = some (rowPt n F l i) := by
          rw [hxs, ← hl, ← hL]
          exact ptCells_at L i (by omega) F
        rw [List.getElem?_take, if_pos (by omega), Array.getElem?_toList] at e1
        exact e1
      · unfold rowPt
        rw [if_neg h2, ← hF]
        simp only
        rw [Array.getElem?_eq_getElem (by omega)]
        rfl
    have hk0 : Blk w G 75 (arr N (rowPt n F l)) := by rw [← hcur]; exact hg
    have hstart : Blk w G 75 (arr N (rowPt n F (mk n l 0))) := hk0.same (arr_congr fun i _ => by
      exact rowPt_congr (fun y hy => by
        unfold mk
        rw [if_neg (by omega)]) i)
    have HEND : Hid (∀ w' k, n ≤ 2 * k + 1 → 2 * k ≤ n → Blk w' G 75 (arr N (rowPt n F (mk n l k))) → w'.ownsRow B 75 2 (.slice (some ⟨G, 0, none⟩) n c) n (ptCells L.reverse)) := Lib.hid fun w' k h1 h2 hb => by
      refine ⟨by rw [ptCells_length, List.length_reverse, hL], .inr ⟨G, c, _, rfl, hB, hb, hnc, hcap, by rw [arr_size, ← hN]; exact hmx, ?_⟩⟩
      apply List.ext_getElem?
      intro i
      rw [List.getElem?_take]
      by_cases hi : i < n * 2
      · rw [if_pos hi, Array.getElem?_toList, arr_get, if_pos (by omega), ptCells_at L.reverse i (by rw [List.length_reverse]; omega) F]
        congr 1
        rw [List.length_reverse, hL]
        refine rowPt_congr (fun y hy => ?_) i
        rw [List.getD_eq_getElem?_getD, List.getElem?_reverse (by omega), hL, ← List.getD_eq_getElem?_getD]
        unfold mk
        rw [← hl]
        by_cases h3 : y < n ∧ (y < k ∨ n ≤ y + k)
        · rw [if_pos h3]
        · rw [if_neg h3]
          simp only
          congr 1
          omega
      · rw [if_neg hi, List.getElem?_eq_none (by rw [ptCells_length, List.length_reverse]; omega)]
    have HST := Lib.hid hstart
    clear ho ho2 hg hxs hcur hk0 hstart hB hmx hcap hN hF hl hL hnc
    go_enter Tryd.func54, Tryd.ntmps54
    go_wp2
    go_loopw [2, 3] (fun i j wr => ∃ k : Nat, i = .int .i64 (k : Int) ∧ j = .int .i64 ((n : Int) - 1 - (k : Int)) ∧ 2 * k ≤ n ∧ Blk wr G 75 (arr N (rowPt n F (mk n l k))) ∧ Turn (fun b => b = G) w wr) (fun i _ _ => n - (intOf i).toNat)
    case atStart => exact ⟨0, rfl, by go_num, by omega, HST.out, Turn.refl _ _⟩
    case round =>
      obtain ⟨k, rfl, rfl, hk2, hb, ht⟩ := hrel
      by_cases hlt : 2 * k + 1 < n
      · obtain ⟨y, hy⟩ : ∃ y, n - 1 - k = y := ⟨_, rfl⟩
        have hyi : (n : Int) - 1 - (k : Int) = (y : Int) := by omega
        rw [hyi]
        have hky : (k : Int) < (y : Int) := by omega
        have hkn : (k : Int) < (n : Int) := by omega
        have hyn : (y : Int) < (n : Int) := by omega
        have hk0 : (0 : Int) ≤ (k : Int) := by omega
        have hy0 : (0 : Int) ≤ (y : Int) := by omega
        have hn6 : (n : Int) ≤ 1000000 := by omega
        have hb2 : Blk wr.drew G 75 (arr N (rowPt n F (mk n l k))) := hb
        have hl7 := load_pt (x := y) hb2 (by omega) hnN
        have hl11 := load_pt (x := k) hb2 (by omega) hnN
        have e7 : mk n l k y = l (n - 1 - y) ∨ True := .inr trivial
        have HT := Lib.hid ht.drew
        have HB2 := Lib.hid hb2
        clear hb ht hb2 e7
        have e7 : mk n l k y = l y := by unfold mk; rw [if_neg (by omega)]
        have e11 : mk n l k k = l k := by unfold mk; rw [if_neg (by omega)]
        rw [e7] at hl7
        rw [e11] at hl11
        clear e7 e11
        go_wp2
        refine wp_region_held_drew (S := fun _ => True) (by kernel_rfl) ?_ (fun hHeld => ?_)
        · exact trivial
        refine wpAnyH_take (i := 0) (oi := ⟨some 14, _, _, _, _, _⟩) (v := ?_) rfl (by kernel_rfl) (by kernel_rfl) (by kernel_rfl) (fun _ _ _ h => h) (Or.inl ⟨by rfl, ?_⟩) (by assumption) ?_
        rotate_left
        · intro w hSw; (try dsimp only at hSw); go_simp; try (with_reducible rfl)
        rotate_left 0
        try simp only [Act.put, List.setIfInBounds_toArray, List.set_cons_zero, List.set_cons_succ]
        refine wpAnyH_take (i := 1) (oi := ⟨some 15, _, _, _, _, _⟩) (v := ?_) rfl (by kernel_rfl) (by kernel_rfl) (by kernel_rfl) (fun _ _ _ h => h) (Or.inl ⟨by rfl, ?_⟩) (by assumption) ?_
        rotate_left
        · intro w hSw; (try dsimp only at hSw); go_simp; try (with_reducible rfl)
        rotate_left 0
        try simp only [Act.put, List.setIfInBounds_toArray, List.set_cons_zero, List.set_cons_succ]
        refine wpAnyH_take (i := 2) (oi := ⟨some 16, _, _, _, _, _⟩) (v := ?_) rfl (by kernel_rfl) (by kernel_rfl) (by kernel_rfl) (fun _ _ _ h => h) (Or.inl ⟨by rfl, ?_⟩) (by assumption) ?_
        rotate_left
        · intro w hSw; (try dsimp only at hSw); go_simp; try (with_reducible rfl)
        rotate_left 0
        try simp only [Act.put, List.setIfInBounds_toArray, List.set_cons_zero, List.set_cons_succ]
        refine wpAnyH_take (i := 3) (oi := ⟨some 17, _, _, _, _, _⟩) (v := ?_) rfl (by kernel_rfl) (by kernel_rfl) (by kernel_rfl) (fun _ _ _ h => h) (Or.inl ⟨by rfl, ?_⟩) (by assumption) ?_
        rotate_left
        · intro w hSw; (try dsimp only at hSw); go_simp; try (with_reducible rfl)
        rotate_left 0
        try simp only [Act.put, List.setIfInBounds_toArray, List.set_cons_zero, List.set_cons_succ]
        refine wpAnyH_take (i := 4) (oi := ⟨some 18, _, _, _, _, _⟩) (v := ?_) rfl (by kernel_rfl) (by kernel_rfl) (by kernel_rfl) (fun _ _ _ h => h) (Or.inl ⟨by rfl, ?_⟩) (by assumption) ?_
        rotate_left
        · intro w hSw; (try dsimp only at hSw); go_simp; try (with_reducible rfl)
        rotate_left 0
        try simp only [Act.put, List.setIfInBounds_toArray, List.set_cons_zero, List.set_cons_succ]
        refine wpAnyH_take (i := 5) (oi := ⟨some 19, _, _, _, _, _⟩) (v := ?_) rfl (by kernel_rfl) (by kernel_rfl) (by kernel_rfl) (fun _ _ _ h => h) (Or.inl ⟨by rfl, ?_⟩) (by assumption) ?_
        rotate_left
        · intro w hSw; (try dsimp only at hSw); go_simp; try (with_reducible rfl)
        rotate_left 0
        try simp only [Act.put, List.setIfInBounds_toArray, List.set_cons_zero, List.set_cons_succ]
        refine wpAnyH_take (i := 6) (oi := ⟨some 20, _, _, _, _, _⟩) (v := ?_) rfl (by kernel_rfl) (by kernel_rfl) (by kernel_rfl) (fun _ _ _ h => h) (Or.inl ⟨by rfl, ?_⟩) (by assumption) ?_
        rotate_left
        · intro w hSw; (try dsimp only at hSw); go_simp; try (with_reducible rfl)
        rotate_left 0
        try simp only [Act.put, List.setIfInBounds_toArray, List.set_cons_zero, List.set_cons_succ]
        refine wpAnyH_take (i := 8) (oi := ⟨some 22, _, _, _, _, _⟩) (v := ?_) rfl (by kernel_rfl) (by kernel_rfl) (by kernel_rfl) (fun _ _ _ h => h) (Or.inl ⟨by rfl, ?_⟩) (by assumption) ?_
        rotate_left
        · intro w hSw; (try dsimp only at hSw); go_simp; try (with_reducible rfl)
        rotate_left 0
        try simp only [Act.put, List.setIfInBounds_toArray, List.set_cons_zero, List.set_cons_succ]
        refine wpAnyH_take (i := 9) (oi := ⟨some 23, _, _, _, _, _⟩) (v := ?_) rfl (by kernel_rfl) (by kernel_rfl) (by kernel_rfl) (fun _ _ _ h => h) (Or.inl ⟨by rfl, ?_⟩) (by assumption) ?_
        rotate_left
        · intro w hSw; (try dsimp only at hSw); go_simp; try (with_reducible rfl)
        rotate_left 0
        try simp only [Act.put, List.setIfInBounds_toArray, List.set_cons_zero, List.set_cons_succ]
        refine wpAnyH_take (i := 10) (oi := ⟨some 24, _, _, _, _, _⟩) (v := ?_) rfl (by kernel_rfl) (by kernel_rfl) (by kernel_rfl) (fun _ _ _ h => h) (Or.inl ⟨by rfl, ?_⟩) (by assumption) ?_
        rotate_left
        · intro w hSw; (try dsimp only at hSw); go_simp; try (with_reducible rfl)
        rotate_left 0
        try simp only [Act.put, List.setIfInBounds_toArray, List.set_cons_zero, List.set_cons_succ]
        refine wpAnyH_ready (rs := [7, 11]) (by kernel_rfl) (by simp) ?_
        refine (AllReadyH.cons (o := ⟨some 21, _, _, _, _, _⟩) rfl (fun K hK => ?_) (AllReadyH.cons (o := ⟨some 25, _, _, _, _, _⟩) rfl (fun K hK => ?_) AllReadyH.nil))
        · (try rw [if_pos (by rfl)])
          refine oper_load 75 _ rfl _ _ rfl hl7 ?_
          try simp only [Act.put, List.setIfInBounds_toArray, List.set_cons_zero, List.set_cons_succ]
          try dsimp only
          refine hK.out _ _ (trivial) (fun hHeld => ?_)
          clear hK K
          try simp only [Act.put, List.setIfInBounds_toArray, List.set_cons_zero, List.set_cons_succ]
          refine wpAnyH_ready (rs := [11]) (by kernel_rfl) (by simp) ?_
          refine (AllReadyH.cons (o := ⟨some 25, _, _, _, _, _⟩) rfl (fun K hK => ?_) AllReadyH.nil)
          (try rw [if_pos (by rfl)])
          refine oper_load 75 _ rfl _ _ rfl hl11 ?_
          try simp only [Act.put, List.setIfInBounds_toArray, List.set_cons_zero, List.set_cons_succ]
          try dsimp only
          refine hK.out _ _ (trivial) (fun hHeld => ?_)
          clear hK K
          try simp only [Act.put, List.setIfInBounds_toArray, List.set_cons_zero, List.set_cons_succ]
          refine wpAnyH_take (i := 12) (oi := ⟨some 26, _, _, _, _, _⟩) (v := ?_) rfl (by kernel_rfl) (by kernel_rfl) (by kernel_rfl) (fun _ _ _ h => h) (Or.inl ⟨by rfl, ?_⟩) (by assumption) ?_
          rotate_left
          · intro w hSw; (try dsimp only at hSw); go_simp; try (with_reducible rfl)
          rotate_left 0
          try simp only [Act.put, List.setIfInBounds_toArray, List.set_cons_zero, List.set_cons_succ]
          refine wpAnyH_ready (rs := [13]) (by kernel_rfl) (by simp) ?_
          refine (AllReadyH.cons (o := ⟨none, _, _, _, _, _⟩) rfl (fun K hK => ?_) AllReadyH.nil)
          (try rw [if_pos (by rfl)])
          refine oper_store_pt rfl _ _ rfl G N n (k) _ F _ (l y) rfl (by first | rfl | omega) rfl HB2.out (by omega) hnN (by kernel_rfl) ?_
          intro Ws hks _ hts
          replace HT := Lib.hid (HT.out.trans hts (fun _ _ h => h))
          try simp only [Act.put]
          try dsimp only
          refine hK.out _ _ (trivial) (fun hHeld => ?_)
          clear hK K
          try simp only [Act.put, List.setIfInBounds_toArray, List.set_cons_zero, List.set_cons_succ]
          refine wpAnyH_take (i := 14) (oi := ⟨some 27, _, _, _, _, _⟩) (v := ?_) rfl (by kernel_rfl) (by kernel_rfl) (by kernel_rfl) (fun _ _ _ h => h) (Or.inl ⟨by rfl, ?_⟩) (by assumption) ?_
          rotate_left
          · intro w hSw; (try dsimp only at hSw); go_simp; try (with_reducible rfl)
          rotate_left 0
          try simp only [Act.put, List.setIfInBounds_toArray, List.set_cons_zero, List.set_cons_succ]
          refine wpAnyH_ready (rs := [15]) (by kernel_rfl) (by simp) ?_
          refine (AllReadyH.cons (o := ⟨none, _, _, _, _, _⟩) rfl (fun K hK => ?_) AllReadyH.nil)
          (try rw [if_pos (by rfl)])
          refine oper_store_pt rfl _ _ rfl G N n (y) _ F _ (l k) rfl (by first | rfl | omega) rfl hks (by omega) hnN (by kernel_rfl) ?_
          intro Ws hks _ hts
          replace HT := Lib.hid (HT.out.trans hts (fun _ _ h => h))
          try simp only [Act.put]
          try dsimp only
          refine hK.out _ _ (trivial) (fun hHeld => ?_)
          clear hK K
          try simp only [Act.put, List.setIfInBounds_toArray, List.set_cons_zero, List.set_cons_succ]
          refine wpAnyH_done (by kernel_rfl) ?_ _
          have HE : Hid (Blk Ws G 75 (arr N (rowPt n F (mk n l (k + 1)))) ∧ Turn (fun b => b = G) w Ws) := Lib.hid ⟨hks.same (arr_congr fun i _ => by rw [← hy]; exact mk_step n k l hlt i F), HT.out⟩
          go_wp2_with fail
          go_roundw
          case rel => exact ⟨k + 1, by go_num, by go_num, by omega, HE.out⟩
          case measure => simp [intOf]; omega
        · (try rw [if_pos (by rfl)])
          refine oper_load 75 _ rfl _ _ rfl hl11 ?_
          try simp only [Act.put, List.setIfInBounds_toArray, List.set_cons_zero, List.set_cons_succ]
          try dsimp only
          refine hK.out _ _ (trivial) (fun hHeld => ?_)
          clear hK K
          try simp only [Act.put, List.setIfInBounds_toArray, List.set_cons_zero, List.set_cons_succ]
          refine wpAnyH_ready (rs := [7]) (by kernel_rfl) (by simp) ?_
          refine (AllReadyH.cons (o := ⟨some 21, _, _, _, _, _⟩) rfl (fun K hK => ?_) AllReadyH.nil)
          (try rw [if_pos (by rfl)])
          refine oper_load 75 _ rfl _ _ rfl hl7 ?_
          try simp only [Act.put, List.setIfInBounds_toArray, List.set_cons_zero, List.set_cons_succ]
          try dsimp only
          refine hK.out _ _ (trivial) (fun hHeld => ?_)
          clear hK K
          try simp only [Act.put, List.setIfInBounds_toArray, List.set_cons_zero, List.set_cons_succ]
          refine wpAnyH_take (i := 12) (oi := ⟨some 26, _, _, _, _, _⟩) (v := ?_) rfl (by kernel_rfl) (by kernel_rfl) (by kernel_rfl) (fun _ _ _ h => h) (Or.inl ⟨by rfl, ?_⟩) (by assumption) ?_
          rotate_left
          · intro w hSw; (try dsimp only at hSw); go_simp; try (with_reducible rfl)
          rotate_left 0
          try simp only [Act.put, List.setIfInBounds_toArray, List.set_cons_zero, List.set_cons_succ]
          refine wpAnyH_ready (rs := [13]) (by kernel_rfl) (by simp) ?_
          refine (AllReadyH.cons (o := ⟨none, _, _, _, _, _⟩) rfl (fun K hK => ?_) AllReadyH.nil)
          (try rw [if_pos (by rfl)])
          refine oper_store_pt rfl _ _ rfl G N n (k) _ F _ (l y) rfl (by first | rfl | omega) rfl HB2.out (by omega) hnN (by kernel_rfl) ?_
          intro Ws hks _ hts
          replace HT := Lib.hid (HT.out.trans hts (fun _ _ h => h))
          try simp only [Act.put]
          try dsimp only
          refine hK.out _ _ (trivial) (fun hHeld => ?_)
          clear hK K
          try simp only [Act.put, List.setIfInBounds_toArray, List.set_cons_zero, List.set_cons_succ]
          refine wpAnyH_take (i := 14) (oi := ⟨some 27, _, _, _, _, _⟩) (v := ?_) rfl (by kernel_rfl) (by kernel_rfl) (by kernel_rfl) (fun _ _ _ h => h) (Or.inl ⟨by rfl, ?_⟩) (by assumption) ?_
          rotate_left
          · intro w hSw; (try dsimp only at hSw); go_simp; try (with_reducible rfl)
          rotate_left 0
          try simp only [Act.put, List.setIfInBounds_toArray, List.set_cons_zero, List.set_cons_succ]
          refine wpAnyH_ready (rs := [15]) (by kernel_rfl) (by simp) ?_
          refine (AllReadyH.cons (o := ⟨none, _, _, _, _, _⟩) rfl (fun K hK => ?_) AllReadyH.nil)
          (try rw [if_pos (by rfl)])
          refine oper_store_pt rfl _ _ rfl G N n (y) _ F _ (l k) rfl (by first | rfl | omega) rfl hks (by omega) hnN (by kernel_rfl) ?_
          intro Ws hks _ hts
          replace HT := Lib.hid (HT.out.trans hts (fun _ _ h => h))
          try simp only [Act.put]
          try dsimp only
          refine hK.out _ _ (trivial) (fun hHeld => ?_)
          clear hK K
          try simp only [Act.put, List.setIfInBounds_toArray, List.set_cons_zero, List.set_cons_succ]
          refine wpAnyH_done (by kernel_rfl) ?_ _
          have HE : Hid (Blk Ws G 75 (arr N (rowPt n F (mk n l (k + 1)))) ∧ Turn (fun b => b = G) w Ws) := Lib.hid ⟨hks.same (arr_congr fun i _ => by rw [← hy]; exact mk_step n k l hlt i F), HT.out⟩
          go_wp2_with fail
          go_roundw
          case rel => exact ⟨k + 1, by go_num, by go_num, by omega, HE.out⟩
          case measure => simp [intOf]; omega
      · have hge : ¬ ((k : Int) < (n : Int) - 1 - (k : Int)) := by omega
        have HE := Lib.hid (And.intro (HEND.out wr k (by omega) hk2 hb) ht)
        clear hb ht
        go_wp2
        go_end0
        exact ⟨rfl, HE.out.1, HE.out.2.mono fun i _ hi => by rw [hi]; rfl⟩
end Go.Proofs.YtphknicdllcbmaaDoor
