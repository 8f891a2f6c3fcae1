/-
  The reference's timers: Set, Tick. No condition.
-/
import Derived.Test.YtgcpiaogodgphaaTmrNum
namespace Go.Proofs.Ytgcpiaogodgphaa
open Go Go.RowKit

theorem dueT : ElT Try.prog 43 29 3 24 := ⟨Try.underlying29, by kernel_rfl, by omega, by omega⟩
theorem due_info : (Try.prog.info? 43).map (·.size) = some 3 := by kernel_rfl
theorem due_built (l r s : Int) : Try.prog.builtSlice 43 1 [(0, .agg #[.int .i64 l, .int .i64 r, .int .i64 s])] = some #[.int .i64 l, .int .i64 r, .int .i64 s] := by kernel_rfl
theorem wpList_build_due {ops : Array Oper} {rest : List Oper} {o : Oper} {a : Act} {w : World} {Q : Exit → Act → World → Prop} (hgd : o.guard = none) (x : Operand) (ho : o.op = .buildSlice 29 1 #[(0, x)]) (l r s : Int) (hx : a.eval x = .agg #[.int .i64 l, .int .i64 r, .int .i64 s])
    (h : wpList Try.prog ops Q rest (a.put o.dst (.slice (some ⟨w.heap.size, 0, none⟩) 1 1)) (w.alloc (.cells #[.int .i64 l, .int .i64 r, .int .i64 s] 43))) : wpList Try.prog ops Q (o :: rest) a w :=
  Great.wpList_buildSliceTo hgd 29 43 1 _ ho _ rfl _ rfl Try.underlying29 #[.int .i64 l, .int .i64 r, .int .i64 s] (by
    have hp : ((#[(0, x)] : Array (Nat × Operand)).map fun (i, x) => (i, a.eval x)).toList = [(0, .agg #[.int .i64 l, .int .i64 r, .int .i64 s])] := by simp [hx]
    rw [hp]
    exact due_built l r s) h
theorem own_block_le {B : Nat} {e : TypeId} {k : Nat} {v : Value} {n : Nat} {xs : List Value} {w : World} (h : w.ownsRow B e k v n xs) {A : Addr} {m q : Nat} (hv : v = .slice (some A) m q) : B ≤ A.block := by
  subst hv
  rcases h.2 with ⟨h0, _⟩ | ⟨g, cap, cur, h1, h2, _⟩
  · cases h0
  · obtain ⟨h0, -, -⟩ := Value.slice.inj h1
    cases h0
    exact h2
theorem ownK_none (w : World) (B : Nat) (e k : Nat) (hB : B ≤ w.heap.size) : (w.alloc (.cells #[] e)).ownsRow B e k (.slice (some ⟨w.heap.size, 0, none⟩) 0 0) 0 (rowC []) :=
  ⟨by simp [rowC], .inr ⟨w.heap.size, 0, #[], rfl, hB, heap_alloc_new w _, Nat.le_refl _, by unfold maxLen; omega, by simp, by simp [rowC]⟩⟩
set_option maxRecDepth 100000 in
set_option maxHeartbeats 4000000 in
theorem refset_full (v : Value) (D : List (List Int)) (r s : Int) (w : World) (hr : RdK 3 w w.heap.size v D) (hD : D.length = 40) : Calls Try.prog 8 #[v, .int .i64 r, .int .i64 s] w fun e w' => e = .returned (.tuple #[v, .bool false]) ∧ Below w.heap.size w w' := by
  obtain ⟨A0, c, rfl⟩ : ∃ A c, v = .slice A 40 c := by
    obtain ⟨_, A, c, h, _⟩ := hr
    exact ⟨A, c, by rw [h, hD]⟩
  clear hr hD
  go_enter Try.func8, Try.ntmps8
  go_wp2_with fail
  go_ret2
  exact ⟨rfl, Below.refl _ _⟩
set_option maxRecDepth 100000 in
set_option maxHeartbeats 4000000 in
theorem refset_more (v : Value) (D : List (List Int)) (r s : Int) (w : World) (hr : RdK 3 w w.heap.size v D) (hD : D.length < 40) : Calls Try.prog 8 #[v, .int .i64 r, .int .i64 s] w fun e w' => ∃ v', e = .returned (.tuple #[v', .bool true]) ∧ RdK 3 w' w'.heap.size v' (D ++ [[dly r, r, s]]) ∧ (∀ A m q, v' = .slice (some A) m q → w.heap.size ≤ A.block) ∧ Below w.heap.size w w' := by
  obtain ⟨m, hm⟩ : ∃ m, D.length = m := ⟨_, rfl⟩
  obtain ⟨A0, c, rfl⟩ : ∃ A c, v = .slice A m c := by
    obtain ⟨_, A, c, h, _⟩ := hr
    exact ⟨A, c, by rw [h, hm]⟩
  rw [hm] at hD
  have hmi : ¬ (40 : Int) ≤ (m : Int) := by omega
  have hb4 : Below w.heap.size w (w.alloc (.cells #[] 43)) := (Below.refl _ _).alloc (Nat.le_refl _) _
  have hs4 : (w.alloc (.cells #[] 43)).heap.size = w.heap.size + 1 := by simp
  obtain ⟨v1, W5, hrun1, hown1, hgr1, _⟩ := app_k dueT (B := w.heap.size) (by rw [hs4]; omega) (ownK_none w w.heap.size 43 3 (Nat.le_refl _)) (hr.old hb4) (by omega)
  have hb5 : Below w.heap.size w W5 := hb4.grown hgr1 (by rw [hs4]; omega) (fun i hi => by simp [Value.ownBlock] at hi; omega)
  have hz5 := hb5.size
  have hb6 : Below W5.heap.size W5 (W5.alloc (.cells #[.int .i64 (dly r), .int .i64 r, .int .i64 s] 43)) := (Below.refl _ _).alloc (Nat.le_refl _) _
  have hs6 : (W5.alloc (.cells #[.int .i64 (dly r), .int .i64 r, .int .i64 s] 43)).heap.size = W5.heap.size + 1 := by simp
  have hown1' := ownK_kept hown1 hb6
  obtain ⟨v2, W7, hrun2, hown2, hgr2, _⟩ := app_k dueT (B := w.heap.size) (by rw [hs6]; omega) hown1' (rdK_new W5 43 [dly r, r, s] rfl) (by omega)
  have hb7 : Below w.heap.size w W7 := (hb5.trans (hb6.mono hz5)).grown hgr2 (by rw [hs6]; omega) (fun i hi => (hown1'.lt i hi).1)
  have h3 := hr.1
  have HFIN : Hid (RdK 3 W7 W7.heap.size v2 (D ++ [[dly r, r, s]]) ∧ (∀ A m q, v2 = .slice (some A) m q → w.heap.size ≤ A.block) ∧ Below w.heap.size w W7) := Lib.hid ⟨rdK_own (n := 0 + m + 1) (by rw [rowC_append]; simpa [rowC] using hown2) (fun y hy => by
    rcases List.mem_append.1 hy with h | h
    · exact h3 y h
    · rw [List.mem_singleton] at h
      rw [h]
      rfl) (by rw [List.length_append, hm]; simp) (by omega), fun A m q hv => own_block_le hown2 hv, hb7⟩
  have HR1 := Lib.hid hrun1
  have HR2 := Lib.hid hrun2
  have HDL := Lib.hid fun W => refdelay_any r W
  generalize dly r = d at HDL HR2 HFIN
  clear hb4 hs4 hrun1 hown1 hgr1 hb5 hb6 hs6 hz5 hown1' hrun2 hown2 hgr2 hb7 hr h3
  go_enter Try.func8, Try.ntmps8
  go_wp2_with (first
    | (at_builtin; refine wpList_append_runT rfl (.tmp 13) (.tmp 14) _ _ rfl _ _ rfl rfl _ _ HR1.out ?_)
    | (at_builtin; refine wpList_append_runT rfl (.tmp 16) (.tmp 22) _ _ rfl _ _ rfl rfl _ _ HR2.out ?_)
    | (go_at_call 11; refine (HDL.out _).mono ?_; rintro e W8 ⟨rfl, h8⟩; obtain rfl := h8.symm)
    | (guard_target = wpList _ _ _ (Oper.mk _ (.buildSlice _ 1 _) _ _ _ _ :: _) _ _; refine wpList_build_due rfl _ rfl d r s rfl ?_))
  go_ret2
  exact ⟨v2, rfl, HFIN.out.1, HFIN.out.2.1, HFIN.out.2.2⟩
/-! The reference's Tick. -/
def decD (x : List Int) : List Int := [x.getD 0 0 - 1, x.getD 1 0, x.getD 2 0]
def leftD (l : List (List Int)) : List (List Int) := (l.map decD).filter fun x => decide (0 < x.getD 0 0)
def overD (l : List (List Int)) : List (List Int) := (l.map decD).filter fun x => decide (x.getD 0 0 ≤ 0)
theorem leftD_take {l : List (List Int)} {j : Nat} {x : List Int} (h : l[j]? = some x) : leftD (l.take (j + 1)) = leftD (l.take j) ++ (if 0 < x.getD 0 0 - 1 then [decD x] else []) := by
  unfold leftD
  rw [List.take_add_one, h, List.map_append, List.filter_append]
  congr 1
  have e : (decD x).getD 0 0 = x.getD 0 0 - 1 := rfl
  by_cases hx : 0 < x.getD 0 0 - 1
  · rw [if_pos hx]
    exact List.filter_cons_of_pos (by rw [e]; exact decide_eq_true hx)
  · rw [if_neg hx]
    exact List.filter_cons_of_neg (by rw [e]; simpa using hx)
theorem overD_take {l : List (List Int)} {j : Nat} {x : List Int} (h : l[j]? = some x) : overD (l.take (j + 1)) = overD (l.take j) ++ (if x.getD 0 0 - 1 ≤ 0 then [decD x] else []) := by
  unfold overD
  rw [List.take_add_one, h, List.map_append, List.filter_append]
  congr 1
  have e : (decD x).getD 0 0 = x.getD 0 0 - 1 := rfl
  by_cases hx : x.getD 0 0 - 1 ≤ 0
  · rw [if_pos hx]
    exact List.filter_cons_of_pos (by rw [e]; exact decide_eq_true hx)
  · rw [if_neg hx]
    exact List.filter_cons_of_neg (by rw [e]; simpa using hx)
theorem leftD_le (l : List (List Int)) : (leftD l).length ≤ l.length := by
  unfold leftD
  exact Nat.le_trans (List.length_filter_le _ _) (by rw [List.length_map]; exact Nat.le_refl _)
theorem overD_le (l : List (List Int)) : (overD l).length ≤ l.length := by
  unfold overD
  exact Nat.le_trans (List.length_filter_le _ _) (by rw [List.length_map]; exact Nat.le_refl _)
theorem leftD_3 (l : List (List Int)) : ∀ x ∈ leftD l, x.length = 3 := fun x hx => by
  obtain ⟨y, _, rfl⟩ := List.mem_map.1 (List.mem_filter.1 hx).1
  rfl
theorem overD_3 (l : List (List Int)) : ∀ x ∈ overD l, x.length = 3 := fun x hx => by
  obtain ⟨y, _, rfl⟩ := List.mem_map.1 (List.mem_filter.1 hx).1
  rfl
/-- Two rows of the call's own, apart. -/
structure RTickR (w wr : World) (D : List (List Int)) (n j : Nat) (v4 v5 : Value) : Prop where
  left : wr.ownsRow w.heap.size 43 3 v4 (leftD (D.take j)).length (rowC (leftD (D.take j)))
  over : wr.ownsRow w.heap.size 43 3 v5 (overD (D.take j)).length (rowC (overD (D.take j)))
  apart : ∀ i, v4.ownBlock = some i → v5.ownBlock ≠ some i
  below : Below w.heap.size w wr
  le : j ≤ n
theorem RTickR.kept {w wr w' : World} {D : List (List Int)} {n j : Nat} {v4 v5 : Value} (h : RTickR w wr D n j v4 v5) (hb : Below wr.heap.size wr w') : RTickR w w' D n j v4 v5 :=
  ⟨ownK_kept h.left hb, ownK_kept h.over hb, h.apart, h.below.trans (hb.mono h.below.size), h.le⟩
theorem ownK_far {B : Nat} {e : TypeId} {k : Nat} {v : Value} {n : Nat} {xs : List Value} {w w' : World} {row : Option Nat} (h : w.ownsRow B e k v n xs) (hg : w.grownBy w' row) (hn : ∀ i, v.ownBlock = some i → row ≠ some i) : w'.ownsRow B e k v n xs := by
  refine ⟨h.1, ?_⟩
  rcases h.2 with h0 | ⟨g, cap, cur, h1, h2, h3, h4⟩
  · exact .inl h0
  · refine .inr ⟨g, cap, cur, h1, h2, (hg.block g ?_ (fun e => hn g (by rw [h1]; rfl) e.symm)).trans h3, h4⟩
    rcases Nat.lt_or_ge g w.heap.size with h' | h'
    · exact h'
    · rw [Array.getElem?_eq_none h'] at h3; cases h3
theorem RTickR.toOver {w wr w1 : World} {D : List (List Int)} {n j : Nat} {v4 v5 v' : Value} {x : List Int} (h : RTickR w wr D n j v4 v5) (hx : D[j]? = some x) (hd : x.getD 0 0 - 1 ≤ 0) (hj : j < n)
    (hown : w1.ownsRow w.heap.size 43 3 v' ((overD (D.take j)).length + 1) (rowC (overD (D.take j)) ++ rowC [decD x])) (hg : wr.grownBy w1 v5.ownBlock) (hb : v'.ownBlock = v5.ownBlock ∨ v'.ownBlock = some wr.heap.size) : RTickR w w1 D n (j + 1) v4 v' := by
  have e1 := leftD_take hx
  rw [if_neg (by omega), List.append_nil] at e1
  have e2 := overD_take hx
  rw [if_pos hd] at e2
  refine ⟨by rw [e1]; exact ownK_far h.left hg (fun i hi => h.apart i hi), by rw [e2, rowC_append, List.length_append, List.length_singleton]; exact hown, fun i hi hv => ?_, h.below.grown hg h.below.size (fun i hi => (h.over.lt i hi).1), hj⟩
  rcases hb with hb | hb
  · exact h.apart i hi (hb.symm.trans hv)
  · have := (h.left.lt i hi).2
    rw [hb] at hv
    have := Option.some.inj hv
    omega
theorem RTickR.toLeft {w wr w1 : World} {D : List (List Int)} {n j : Nat} {v4 v5 v' : Value} {x : List Int} (h : RTickR w wr D n j v4 v5) (hx : D[j]? = some x) (hd : ¬ x.getD 0 0 - 1 ≤ 0) (hj : j < n)
    (hown : w1.ownsRow w.heap.size 43 3 v' ((leftD (D.take j)).length + 1) (rowC (leftD (D.take j)) ++ rowC [decD x])) (hg : wr.grownBy w1 v4.ownBlock) (hb : v'.ownBlock = v4.ownBlock ∨ v'.ownBlock = some wr.heap.size) : RTickR w w1 D n (j + 1) v' v5 := by
  have e1 := leftD_take hx
  rw [if_pos (by omega)] at e1
  have e2 := overD_take hx
  rw [if_neg hd, List.append_nil] at e2
  refine ⟨by rw [e1, rowC_append, List.length_append, List.length_singleton]; exact hown, by rw [e2]; exact ownK_far h.over hg (fun i hi hv => h.apart i hv hi), fun i hi hv => ?_, h.below.grown hg h.below.size (fun i hi => (h.left.lt i hi).1), hj⟩
  rcases hb with hb | hb
  · exact h.apart i (hb.symm.trans hi) hv
  · have := (h.over.lt i hv).2
    rw [hb] at hi
    have := Option.some.inj hi
    omega
set_option maxRecDepth 100000 in
set_option maxHeartbeats 4000000 in
theorem reftick_any (v : Value) (D : List (List Int)) (w : World) (hr : RdK 3 w w.heap.size v D) (hD : D.length ≤ 40) (hlo : ∀ x ∈ D, -1000000 ≤ x.getD 0 0 ∧ x.getD 0 0 ≤ 1000000) : Calls Try.prog 12 #[v] w fun e w' => ∃ vl vo, e = .returned (.tuple #[vl, vo]) ∧ RdK 3 w' w'.heap.size vl (leftD D) ∧ RdK 3 w' w'.heap.size vo (overD D) ∧ (∀ A m q, vl = .slice (some A) m q → w.heap.size ≤ A.block) ∧ (∀ A m q, vo = .slice (some A) m q → w.heap.size ≤ A.block) ∧ Below w.heap.size w w' := by
  obtain ⟨n, hn⟩ : ∃ n, D.length = n := ⟨_, rfl⟩
  obtain ⟨A0, c, rfl⟩ : ∃ A c, v = .slice A n c := by
    obtain ⟨_, A, c, h, _⟩ := hr
    exact ⟨A, c, by rw [h, hn]⟩
  rw [hn] at hD
  have HR := Lib.hid hr
  have HN := Lib.hid hn
  have HLO := Lib.hid hlo
  have HD3 := Lib.hid hr.1
  clear hr hn hlo
  go_enter Try.func12, Try.ntmps12
  go_upto_region 3 with fail
  go_loopw [4, 5, 6] (fun s4 s5 s6 wr => ∃ j : Nat, s6 = .int .i64 (j : Int) ∧ RTickR w wr D n j s4 s5) (fun _ _ s6 _ => n - (intOf s6).toNat)
  case atStart => exact ⟨0, rfl, ownK_nil _ _ _ _, ownK_nil _ _ _ _, fun i hi => (by cases hi), Below.refl _ _, Nat.zero_le _⟩
  case round =>
    obtain ⟨j, rfl, hp⟩ := hrel
    have HP := Lib.hid hp
    have hjn := hp.le
    clear hp
    by_cases hlt : j < n
    · have hji : (j : Int) < (n : Int) := by omega
      have hj0 : (0 : Int) ≤ (j : Int) := by omega
      obtain ⟨x, hx⟩ : ∃ x, D[j]? = some x := ⟨_, List.getElem?_eq_getElem (by rw [HN.out]; exact hlt)⟩
      obtain ⟨l, r, s, rfl⟩ := three (HD3.out x (List.mem_of_getElem? hx))
      have hlb := HLO.out _ (List.mem_of_getElem? hx)
      have hl1 : -1000000 ≤ l := by simpa using hlb.1
      have hl2 : l ≤ 1000000 := by simpa using hlb.2
      obtain ⟨ad, c', he, _, _, hcell⟩ := HR.out.here hx
      rw [HN.out] at he
      obtain ⟨rfl, -, rfl⟩ := Value.slice.inj he
      have hld : (Instr.loadAt 43 (.pointer (some (ad.add (j * 3))))).run Try.prog wr = .ok (.agg (icA [l, r, s])) wr := run_load_ic wr 43 _ Try.underlying43 rfl _ [l, r, s] due_info fun i hi => hcell wr HP.out.below i (by simpa using hi)
      have HLD := Lib.hid hld
      have HX := Lib.hid hx
      clear hx hlb he hcell hld
      go_upto_region 6 with (first
        | (guard_target = wpList _ _ _ (Oper.mk _ (.load 43 _) _ _ _ _ :: _) _ _; refine wpList_load_runT (by rfl) 43 _ rfl (.pointer (some (ad.add (j * 3)))) (.agg #[.int .i64 l, .int .i64 r, .int .i64 s]) rfl (HLD.out) ?_))
      obtain ⟨W9, hW9⟩ : ∃ z, wr.alloc (.cells #[.int .i64 l, .int .i64 r, .int .i64 s] 43) = z := ⟨_, rfl⟩
      have hb9 : Below wr.heap.size wr W9 := by rw [← hW9]; exact (Below.refl _ _).alloc (Nat.le_refl _) _
      have k9 : Blk W9 wr.heap.size 43 #[.int .i64 l, .int .i64 r, .int .i64 s] := by rw [← hW9]; exact Blk.new _ _ _
      rw [hW9]
      have c9 : W9.cell? ⟨wr.heap.size, 0, none⟩ = some (.int .i64 l) := by rw [k9.cell]; rfl
      have f9 := k9.frozen 0
      have k10 : Blk (W9.setCell ⟨wr.heap.size, 0, none⟩ (.int .i64 (l - 1))) wr.heap.size 43 #[.int .i64 (l - 1), .int .i64 r, .int .i64 s] := (k9.store 0 _).same (by simp)
      have hb10 : Below wr.heap.size wr (W9.setCell ⟨wr.heap.size, 0, none⟩ (.int .i64 (l - 1))) := hb9.setCell (Nat.le_refl _) _
      have HP10 := Lib.hid (HP.out.kept hb10)
      have HK10 := Lib.hid k10
      clear hW9 hb9 k9 k10 hb10
      go_upto_region 7 with fail
      obtain ⟨W10, hW10⟩ : ∃ z, W9.setCell ⟨wr.heap.size, 0, none⟩ (.int .i64 (l - 1)) = z := ⟨_, rfl⟩
      rw [hW10] at HP10 HK10 ⊢
      clear hW10 c9 f9
      have c10 : W10.cell? ⟨wr.heap.size, 0, none⟩ = some (.int .i64 (l - 1)) := by rw [HK10.out.cell]; rfl
      have hl10 : (Instr.loadAt 43 (.pointer (some ⟨wr.heap.size, 0, none⟩))).run Try.prog W10 = .ok (.agg #[.int .i64 (l - 1), .int .i64 r, .int .i64 s]) W10 := run_loadVar_row W10 wr.heap.size 43 43 #[.int .i64 (l - 1), .int .i64 r, .int .i64 s] (0, 0) _ HK10.out Try.underlying43 rfl due_info
      have HL10 := Lib.hid hl10
      have hb11 : Below W10.heap.size W10 (W10.alloc (.cells #[.int .i64 (l - 1), .int .i64 r, .int .i64 s] 43)) := (Below.refl _ _).alloc (Nat.le_refl _) _
      have HP11 := Lib.hid (HP10.out.kept hb11)
      clear hl10 hb11
      by_cases hd : l - 1 ≤ 0
      · obtain ⟨v2, W12, hrun2, hown2, hgr2, hob⟩ := app_k dueT (B := w.heap.size) (Nat.le_trans HP11.out.below.size (Nat.le_refl _)) HP11.out.over (rdK_new W10 43 [l - 1, r, s] rfl) (by have := overD_le (D.take j); rw [List.length_take] at this; omega)
        obtain ⟨A2, n2, q2, hv2⟩ : ∃ A n c, v2 = .slice A n c := by
          rcases hown2.2 with ⟨rfl, _⟩ | ⟨g', cap, cur, rfl, _⟩
          · exact ⟨_, _, _, rfl⟩
          · exact ⟨_, _, _, rfl⟩
        subst hv2
        have HR2 := Lib.hid hrun2
        have HFIN := Lib.hid (HP11.out.toOver HX.out (by simpa using hd) hlt hown2 hgr2 hob)
        clear hrun2 hown2 hgr2 hob
        go_wp2_with (first
          | (guard_target = wpList _ _ _ (Oper.mk _ (.load 43 _) _ _ _ _ :: _) _ _; refine wpList_load_runT (by rfl) 43 _ rfl (.pointer (some ⟨wr.heap.size, 0, none⟩)) (.agg #[.int .i64 (l - 1), .int .i64 r, .int .i64 s]) rfl (HL10.out) ?_)
          | (guard_target = wpList _ _ _ (Oper.mk _ (.buildSlice _ 1 _) _ _ _ _ :: _) _ _; refine wpList_build_due rfl _ rfl (l - 1) r s rfl ?_)
          | (at_builtin; refine wpList_append_runT rfl (.tmp 25) (.tmp 27) _ _ rfl _ _ rfl rfl _ _ HR2.out ?_))
        go_roundw
        case rel => exact ⟨j + 1, by go_num, HFIN.out⟩
        case measure => simp [intOf]; omega
      · obtain ⟨v2, W12, hrun2, hown2, hgr2, hob⟩ := app_k dueT (B := w.heap.size) (Nat.le_trans HP11.out.below.size (Nat.le_refl _)) HP11.out.left (rdK_new W10 43 [l - 1, r, s] rfl) (by have := leftD_le (D.take j); rw [List.length_take] at this; omega)
        obtain ⟨A2, n2, q2, hv2⟩ : ∃ A n c, v2 = .slice A n c := by
          rcases hown2.2 with ⟨rfl, _⟩ | ⟨g', cap, cur, rfl, _⟩
          · exact ⟨_, _, _, rfl⟩
          · exact ⟨_, _, _, rfl⟩
        subst hv2
        have HR2 := Lib.hid hrun2
        have HFIN := Lib.hid (HP11.out.toLeft HX.out (by simpa using hd) hlt hown2 hgr2 hob)
        clear hrun2 hown2 hgr2 hob
        go_wp2_with (first
          | (guard_target = wpList _ _ _ (Oper.mk _ (.load 43 _) _ _ _ _ :: _) _ _; refine wpList_load_runT (by rfl) 43 _ rfl (.pointer (some ⟨wr.heap.size, 0, none⟩)) (.agg #[.int .i64 (l - 1), .int .i64 r, .int .i64 s]) rfl (HL10.out) ?_)
          | (guard_target = wpList _ _ _ (Oper.mk _ (.buildSlice _ 1 _) _ _ _ _ :: _) _ _; refine wpList_build_due rfl _ rfl (l - 1) r s rfl ?_)
          | (at_builtin; refine wpList_append_runT rfl (.tmp 29) (.tmp 31) _ _ rfl _ _ rfl rfl _ _ HR2.out ?_))
        go_roundw
        case rel => exact ⟨j + 1, by go_num, HFIN.out⟩
        case measure => simp [intOf]; omega
    · obtain rfl : j = n := by omega
      have hji : ¬ (j : Int) < (j : Int) := by omega
      have htk : D.take j = D := List.take_of_length_le (Nat.le_of_eq HN.out)
      have hpl := HP.out.left
      have hpo := HP.out.over
      rw [htk] at hpl hpo
      have HRL := Lib.hid (rdK_own hpl (leftD_3 _) rfl (by have := leftD_le D; rw [HN.out] at this; omega))
      have HRO := Lib.hid (rdK_own hpo (overD_3 _) rfl (by have := overD_le D; rw [HN.out] at this; omega))
      have HLB := Lib.hid fun A m q hv => own_block_le hpl (A := A) (m := m) (q := q) hv
      have HOB := Lib.hid fun A m q hv => own_block_le hpo (A := A) (m := m) (q := q) hv
      clear hpl hpo htk
      go_wp2_with fail
      go_ret2
      exact ⟨_, _, rfl, HRL.out, HRO.out, HLB.out, HOB.out, HP.out.below⟩
end Go.Proofs.Ytgcpiaogodgphaa
