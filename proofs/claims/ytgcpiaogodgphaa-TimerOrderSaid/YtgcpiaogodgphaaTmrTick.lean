/-
  Timers: the clock goes on. No condition.
-/
import Derived.Test.YtgcpiaogodgphaaTmrDel
namespace Go.Proofs.Ytgcpiaogodgphaa
open Go Go.RowKit

theorem alarmT : ElT Try.prog 25 53 3 24 := ⟨Try.underlying53, by kernel_rfl, by omega, by omega⟩
theorem alarm_built (r s t : Int) : Try.prog.builtSlice 25 1 [(0, .agg #[.int .i64 r, .int .i64 s, .int .i64 t])] = some #[.int .i64 r, .int .i64 s, .int .i64 t] := by kernel_rfl
theorem wpList_build_alarm {ops : Array Oper} {rest : List Oper} {o : Oper} {a : Act} {w : World} {Q : Exit → Act → World → Prop} (hgd : o.guard = none) (x : Operand) (ho : o.op = .buildSlice 53 1 #[(0, x)]) (r s t : Int) (hx : a.eval x = .agg #[.int .i64 r, .int .i64 s, .int .i64 t])
    (h : wpList Try.prog ops Q rest (a.put o.dst (.slice (some ⟨w.heap.size, 0, none⟩) 1 1)) (w.alloc (.cells #[.int .i64 r, .int .i64 s, .int .i64 t] 25))) : wpList Try.prog ops Q (o :: rest) a w :=
  Great.wpList_buildSliceTo hgd 53 25 1 _ ho _ rfl _ rfl Try.underlying53 #[.int .i64 r, .int .i64 s, .int .i64 t] (by
    have hp : ((#[(0, x)] : Array (Nat × Operand)).map fun (i, x) => (i, a.eval x)).toList = [(0, .agg #[.int .i64 r, .int .i64 s, .int .i64 t])] := by simp [hx]
    rw [hp]
    exact alarm_built r s t) h
theorem wpList_append_runT {P : Program} {ops : Array Oper} {rest : List Oper} {o : Oper} {a : Act} {w : World} {Q : Exit → Act → World → Prop} (hgd : o.guard = none) (s x : Operand) (t t' : TypeId) (ho : o.op = .call { callee := .builtin .append, args := #[s, x], argTypes := #[t, t'] })
    (vs vx : Value) (hs : a.eval s = vs) (hx : a.eval x = vx) (v : Value) (w' : World) (hrun : (Builtin.append_ #[t, t'] o.type #[vs, vx]).run P w = .ok v w') (h : wpList P ops Q rest (a.put o.dst v) w') : wpList P ops Q (o :: rest) a w := by
  refine wpList_plain hgd fun K hK => ?_
  unfold Oper.wp
  simp [execOp, ho, resolve, invoke, builtin, hs, hx, hrun, Result.andThen, Oper.upon]
  exact hK _ _ h
theorem ownK_grown {B b : Nat} {e : TypeId} {k : Nat} {v : Value} {n : Nat} {xs : List Value} {w w' : World} (h : w.ownsRow B e k v n xs) (hg : w.grownBy w' (some b)) (hb : b < B) : w'.ownsRow B e k v n xs := by
  refine ⟨h.1, ?_⟩
  rcases h.2 with h0 | ⟨g, cap, cur, h1, h2, h3, h4⟩
  · exact .inl h0
  · refine .inr ⟨g, cap, cur, h1, h2, (hg.block g ?_ (fun e => by have := Option.some.inj e; omega)).trans h3, h4⟩
    rcases Nat.lt_or_ge g w.heap.size with h' | h'
    · exact h'
    · rw [Array.getElem?_eq_none h'] at h3; cases h3
/-- Those that are over. -/
def overL (now : Int) (l : List (List Int)) : List (List Int) := l.filter (dueL now)
theorem overL_take {now : Int} {l : List (List Int)} {j : Nat} {x : List Int} (h : l[j]? = some x) : overL now (l.take (j + 1)) = overL now (l.take j) ++ (if dueL now x = true then [x] else []) := by
  unfold overL
  rw [List.take_add_one, h, List.filter_append]
  congr 1
  cases hd : dueL now x <;> simp [hd]
theorem overL_le (now : Int) (l : List (List Int)) : (overL now l).length ≤ l.length := List.length_filter_le _ _
structure TickR (W wr : World) (c c2 B : Nat) (now : Int) (l : List (List Int)) (n j : Nat) (v : Value) : Prop where
  tm : TimerAt wr B now l
  box : Blk wr c 40 #[.pointer (some ⟨B, 0, none⟩)]
  cell : Blk wr c2 53 #[v]
  own : wr.ownsRow (c2 + 1) 25 3 v (overL now (l.take j)).length (rowC (overL now (l.take j)))
  grown : W.grownBy wr (some B)
  ord : B < c ∧ c < c2 ∧ j ≤ n ∧ W.heap.size ≤ c
theorem TickR.kept {W wr w' : World} {c c2 B : Nat} {now : Int} {l : List (List Int)} {n j : Nat} {v : Value} (h : TickR W wr c c2 B now l n j v) (hb : Below wr.heap.size wr w') : TickR W w' c c2 B now l n j v :=
  ⟨h.tm.below hb, h.box.below hb h.box.lt, h.cell.below hb h.cell.lt, ownK_kept h.own hb, grown_trans' h.grown (grown_below hb _), h.ord⟩
theorem TickR.skip {W wr : World} {c c2 B : Nat} {now : Int} {l : List (List Int)} {n j : Nat} {v : Value} {x : List Int} (h : TickR W wr c c2 B now l n j v) (hx : l[j]? = some x) (hd : dueL now x = false) (hj : j < n) : TickR W wr c c2 B now l n (j + 1) v := by
  have e := overL_take (now := now) hx
  rw [if_neg (by rw [hd]; simp), List.append_nil] at e
  exact ⟨h.tm, h.box, h.cell, by rw [e]; exact h.own, h.grown, by have := h.ord; omega⟩
theorem TickR.more {W wr w1 : World} {c c2 B : Nat} {now : Int} {l : List (List Int)} {n j : Nat} {v v' : Value} {x : List Int} (h : TickR W wr c c2 B now l n j v) (hx : l[j]? = some x) (hd : dueL now x = true) (hj : j < n)
    (hown : w1.ownsRow (c2 + 1) 25 3 v' ((overL now (l.take j)).length + 1) (rowC (overL now (l.take j)) ++ rowC [x])) (hg : wr.grownBy w1 v.ownBlock) : TickR W (w1.setCell ⟨c2, 0, none⟩ v') c c2 B now l n (j + 1) v' := by
  have e := overL_take (now := now) hx
  rw [if_pos hd] at e
  have hne : ∀ b, b ≤ c2 → some b ≠ v.ownBlock := fun b hb e => by have := (h.own.lt b e.symm).1; omega
  have ho := h.ord
  have hset : ∀ b, b ≠ c2 → (w1.setCell ⟨c2, 0, none⟩ v').heap[b]? = w1.heap[b]? := fun b hb => Below.heap_setCell _ _ _ _ hb
  have ht := h.tm.same (hg.block _ h.tm.lt (hne _ (by omega)))
  have hb := h.box.grown hg (hne _ (by omega))
  have hc := h.cell.grown hg (hne _ (Nat.le_refl _))
  refine ⟨ht.same (hset _ (by omega)), hb.far (by show c ≠ c2; omega) _, (hc.store 0 v').same (by simp), ?_, ?_, by omega⟩
  · rw [e, rowC_append, List.length_append, List.length_singleton]
    refine ⟨hown.1, ?_⟩
    rcases hown.2 with h0 | ⟨g, cap, cur, q1, q2, q3, q4⟩
    · exact .inl h0
    · exact .inr ⟨g, cap, cur, q1, q2, (hset _ (by omega)).trans q3, q4⟩
  · refine ⟨hg.os.trans h.grown.os, hg.tape.trans h.grown.tape, hg.output.trans h.grown.output, ?_, fun i hi hn => ?_⟩
    · have := h.grown.size
      have := hg.size
      simp [World.setCell]
      omega
    · rw [hset _ (by omega), hg.block _ (Nat.lt_of_lt_of_le hi h.grown.size) (hne _ (by omega))]
      exact h.grown.block i hi hn
set_option maxRecDepth 100000 in
set_option maxHeartbeats 4000000 in
theorem tick_any {W : World} {B : Nat} {now : Int} {l : List (List Int)} (h : TimerAt W B now l) (hok : OkL (now + 1) l) (hnow : 0 ≤ now) :
    Calls Try.prog 17 #[.pointer (some ⟨B, 0, none⟩)] W fun e w' => ∃ c2 v, e = .returned (.func (.func 21) #[] #[.pointer (some ⟨c2, 0, none⟩)]) ∧ W.heap.size ≤ c2 ∧ Blk w' c2 53 #[v] ∧ RdK 3 w' w'.heap.size v (overL (now + 1) l) ∧ (∀ A m q, v = .slice (some A) m q → W.heap.size ≤ A.block ∧ A.block < w'.heap.size) ∧ TimerAt w' B (now + 1) (keepL (now + 1) l) ∧ W.grownBy w' (some B) := by
  obtain ⟨W0, hW0⟩ : ∃ W0, W.alloc (.cells #[.pointer (some ⟨B, 0, none⟩)] 40) = W0 := ⟨_, rfl⟩
  obtain ⟨c, hc⟩ : ∃ c, W.heap.size = c := ⟨_, rfl⟩
  have hb0 : Below W.heap.size W W0 := by rw [← hW0]; exact (Below.refl _ _).alloc (Nat.le_refl _) _
  have k0 : Blk W0 c 40 #[.pointer (some ⟨B, 0, none⟩)] := by rw [← hW0, ← hc]; exact Blk.new _ _ _
  have hz0 : W0.heap.size = c + 1 := by rw [← hW0, ← hc]; simp
  have hBc : B < c := by rw [← hc]; exact h.lt
  have h' := h.below hb0
  have c0 := cell_now h'
  have cbx : W0.cell? ⟨c, 0, none⟩ = some (.pointer (some ⟨B, 0, none⟩)) := by rw [k0.cell]; rfl
  have f0 : W0.frozen? ⟨B, 0, none⟩ = false := by obtain ⟨F, hk, _⟩ := h'; exact hk.frozen 0
  obtain ⟨n, hn⟩ : ∃ n, l.length = n := ⟨_, rfl⟩
  have hn40 : n ≤ 40 := by obtain ⟨F, _, _, _, h2, _⟩ := h; omega
  have HN := Lib.hid hn
  have HOK := Lib.hid hok
  have HTH : Hid (∀ x ∈ l, x.length = 3) := Lib.hid (by obtain ⟨F, _, _, _, _, h3, _⟩ := h; exact h3)
  have hn1 : now ≤ 999999 := by have := hok.1; omega
  have hT1 : TimerAt (W0.setCell ⟨B, 0, none⟩ (.int .i64 (now + 1))) B (now + 1) l := by
    obtain ⟨F, hk, h0, h1, h2, h3, h4⟩ := h'
    exact ⟨_, setCell_intN hk (by omega) _, by have := putF_in (F := F) (off := 0) (xs := [now + 1]) (i := 0) (by simp); simpa using this, by rw [putF_out (by simp)]; exact h1, h2, h3, fun j x hj i hi => by rw [putF_out (by simp; omega)]; exact h4 j x hj i hi⟩
  obtain ⟨W2, hW2⟩ : ∃ W2, (W0.setCell ⟨B, 0, none⟩ (.int .i64 (now + 1))).alloc (.cells #[.slice none 0 0] 53) = W2 := ⟨_, rfl⟩
  have hs1 : (W0.setCell ⟨B, 0, none⟩ (.int .i64 (now + 1))).heap.size = c + 1 := by simp [World.setCell, hz0]
  have HR0 : Hid (TickR W W2 c (c + 1) B (now + 1) l n 0 (.slice none 0 0)) := Lib.hid (by
    have hb2 : Below (c + 1) (W0.setCell ⟨B, 0, none⟩ (.int .i64 (now + 1))) W2 := by rw [← hW2, ← hs1]; exact (Below.refl _ _).alloc (Nat.le_refl _) _
    refine ⟨hT1.below (hs1 ▸ hb2), ?_, ?_, ?_, ?_, by rw [hc]; omega⟩
    · exact (k0.far (by show c ≠ B; omega) _).below hb2 (by omega)
    · rw [← hW2]
      exact Blk.newAt _ _ hs1 rfl
    · exact ownK_nil _ _ _ _
    · exact grown_trans' (grown_trans' (grown_below hb0 _) (grown_setCell _ _ _ _)) (grown_below (hs1 ▸ hb2) _))
  clear h hok hn hb0 k0 h' hT1
  go_enter Try.func17, Try.ntmps17
  go_upto_region 1 with fail
  try rw [hW0]
  try rw [hc]
  go_upto_region 4 with fail
  have cb2 : W2.cell? ⟨c, 0, none⟩ = some (.pointer (some ⟨B, 0, none⟩)) := by rw [HR0.out.box.cell]; rfl
  have HRU := Lib.hid (running_any HR0.out.tm)
  rw [HN.out] at HRU
  clear c0 cbx f0 hz0 hs1
  go_upto_region 5 with (first
    | (go_at_call 19; refine HRU.out.mono ?_; rintro e W3 ⟨rfl, hb3⟩; have HR3 := Lib.hid (HR0.out.kept hb3); clear hb3))
  go_loopw [18] (fun s18 wr => ∃ (j : Nat) (v : Value), s18 = .int .i64 (j : Int) ∧ TickR W wr c (c + 1) B (now + 1) l n j v) (fun s18 _ => n - (intOf s18).toNat)
  case atStart => exact ⟨0, _, rfl, HR3.out⟩
  case round =>
    obtain ⟨j, v, rfl, hp⟩ := hrel
    have HP := Lib.hid hp
    obtain ⟨_, _, hjn, _⟩ := hp.ord
    clear hp
    by_cases hlt : j < n
    · have hji : (j : Int) < (n : Int) := by omega
      have hj0 : (0 : Int) ≤ (j : Int) := by omega
      obtain ⟨x, hx⟩ : ∃ x, l[j]? = some x := ⟨_, List.getElem?_eq_getElem (by rw [HN.out]; exact hlt)⟩
      obtain ⟨r, s, t, rfl⟩ := three (HTH.out x (List.mem_of_getElem? hx))
      have HLD := Lib.hid (HP.out.tm.load hx)
      have hbd := HOK.out.2 _ (List.mem_of_getElem? hx)
      have HX := Lib.hid hx
      have HBD : Hid (0 ≤ t ∧ t ≤ now + 1 ∧ now + 1 ≤ 1000000) := Lib.hid ⟨by simpa using hbd.1, by simpa using hbd.2, HOK.out.1⟩
      have hdv : dueL (now + 1) [r, s, t] = decide (dly r ≤ now + 1 - t) := rfl
      have HDV := Lib.hid hdv
      clear hx hbd hdv
      go_upto_region 7 with (first
        | (guard_target = wpList _ _ _ (Oper.mk _ (.load 25 _) _ _ _ _ :: _) _ _; refine wpList_load_runT (by rfl) 25 _ rfl (.pointer (some ⟨B, 2 + j * 3, none⟩)) (.agg #[.int .i64 r, .int .i64 s, .int .i64 t]) rfl (HLD.out) ?_))
      obtain ⟨W9, hW9⟩ : ∃ z, wr.alloc (.cells #[.int .i64 r, .int .i64 s, .int .i64 t] 25) = z := ⟨_, rfl⟩
      have hb9 : Below wr.heap.size wr W9 := by rw [← hW9]; exact (Below.refl _ _).alloc (Nat.le_refl _) _
      have HK9 : Hid (Blk W9 wr.heap.size 25 #[.int .i64 r, .int .i64 s, .int .i64 t]) := Lib.hid (by rw [← hW9]; exact Blk.new _ _ _)
      have HP9 := Lib.hid (HP.out.kept hb9)
      rw [hW9]
      clear hW9 hb9
      have HDU := Lib.hid (due_any W9 c B (now + 1) r s t HP9.out.box (cell_now HP9.out.tm) HBD.out)
      generalize decide (dly r ≤ now + 1 - t) = d at HDU HDV
      have hl9 : ∀ W', Blk W' wr.heap.size 25 #[.int .i64 r, .int .i64 s, .int .i64 t] → (Instr.loadAt 25 (.pointer (some ⟨wr.heap.size, 0, none⟩))).run Try.prog W' = .ok (.agg #[.int .i64 r, .int .i64 s, .int .i64 t]) W' := fun W' h => run_loadVar_row W' wr.heap.size 25 25 #[.int .i64 r, .int .i64 s, .int .i64 t] (0, 0) _ h Try.underlying25 rfl alarm_info
      have HL9 := Lib.hid hl9
      clear hl9
      cases d with
      | false =>
        go_wp2_with (first
          | (guard_target = wpList _ _ _ (Oper.mk _ (.load 25 _) _ _ _ _ :: _) _ _; refine wpList_load_runT (by rfl) 25 _ rfl (.pointer (some ⟨wr.heap.size, 0, none⟩)) (.agg #[.int .i64 r, .int .i64 s, .int .i64 t]) rfl (HL9.out _ HK9.out) ?_)
          | (go_at_call 18; refine HDU.out.mono ?_; rintro e W5 ⟨rfl, hb5⟩; have HP5 := Lib.hid (HP9.out.kept hb5); clear hb5))
        go_roundw
        case rel => exact ⟨j + 1, v, by go_num, HP5.out.skip HX.out HDV.out hlt⟩
        case measure => simp [intOf]; omega
      | true =>
        go_upto_region 8 with (first
          | (guard_target = wpList _ _ _ (Oper.mk _ (.load 25 _) _ _ _ _ :: _) _ _; refine wpList_load_runT (by rfl) 25 _ rfl (.pointer (some ⟨wr.heap.size, 0, none⟩)) (.agg #[.int .i64 r, .int .i64 s, .int .i64 t]) rfl (HL9.out _ HK9.out) ?_)
          | (go_at_call 18; refine HDU.out.mono ?_; rintro e W5 ⟨rfl, hb5⟩; have HP5 := Lib.hid (HP9.out.kept hb5); have HK5 := Lib.hid (HK9.out.below hb5 HK9.out.lt); clear hb5))
        have c2c : W5.cell? ⟨c + 1, 0, none⟩ = some v := by rw [HP5.out.cell.cell]; rfl
        have hb6 : Below W5.heap.size W5 (W5.alloc (.cells #[.int .i64 r, .int .i64 s, .int .i64 t] 25)) := (Below.refl _ _).alloc (Nat.le_refl _) _
        have hP6 := HP5.out.kept hb6
        have HP6 := Lib.hid hP6
        obtain ⟨v2, W7, hrun2, hown2, hgr2, _⟩ := app_k alarmT (B := c + 1 + 1) (by have := hP6.cell.lt; omega) hP6.own (rdK_new W5 25 [r, s, t] rfl) (by have := overL_le (now + 1) (l.take j); rw [List.length_take] at this; omega)
        obtain ⟨A2, n2, q2, hv2⟩ : ∃ A n c, v2 = .slice A n c := by
          rcases hown2.2 with ⟨rfl, _⟩ | ⟨g, cap, cur, rfl, _⟩
          · exact ⟨_, _, _, rfl⟩
          · exact ⟨_, _, _, rfl⟩
        subst hv2
        have HR2 := Lib.hid hrun2
        have c7 : W7.cell? ⟨c + 1, 0, none⟩ = some v := by
          have := hP6.cell.grown hgr2 (fun e => by have := (hP6.own.lt _ e.symm).1; omega)
          rw [this.cell]
          rfl
        have f7 : W7.frozen? ⟨c + 1, 0, none⟩ = false := (hP6.cell.grown hgr2 (fun e => by have := (hP6.own.lt _ e.symm).1; omega)).frozen 0
        have HFIN := Lib.hid (HP6.out.more HX.out HDV.out hlt hown2 hgr2)
        clear hP6 hb6 hrun2 hown2 hgr2
        go_wp2_with (first
          | (guard_target = wpList _ _ _ (Oper.mk _ (.load 25 _) _ _ _ _ :: _) _ _; refine wpList_load_runT (by rfl) 25 _ rfl (.pointer (some ⟨wr.heap.size, 0, none⟩)) (.agg #[.int .i64 r, .int .i64 s, .int .i64 t]) rfl (HL9.out _ HK5.out) ?_)
          | (guard_target = wpList _ _ _ (Oper.mk _ (.buildSlice _ 1 _) _ _ _ _ :: _) _ _; refine wpList_build_alarm rfl _ rfl r s t rfl ?_)
          | (at_builtin; refine wpList_append_runT rfl (.tmp 25) (.tmp 27) _ _ rfl _ _ rfl rfl _ _ HR2.out ?_))
        go_roundw
        case rel => exact ⟨j + 1, _, by go_num, HFIN.out⟩
        case measure => simp [intOf]; omega
    · obtain rfl : j = n := by omega
      have hji : ¬ (j : Int) < (j : Int) := by omega
      obtain ⟨wz, hwz⟩ : ∃ z, z = wr := ⟨_, rfl⟩
      subst hwz
      have htk : l.take j = l := List.take_of_length_le (Nat.le_of_eq HN.out)
      have HTK := Lib.hid htk
      have cbx : wz.cell? ⟨c, 0, none⟩ = some (.pointer (some ⟨B, 0, none⟩)) := by rw [HP.out.box.cell]; rfl
      have hbX : Below wz.heap.size wz wz.drew := (Below.refl _ _).drew
      clear htk
      go_upto_region 10 with fail
      refine wp_region_held_drew (S := fun W' => W'.cell? ⟨c, 0, none⟩ = some (.pointer (some ⟨B, 0, none⟩))) (by kernel_rfl) ?_ (fun hHeld => ?_)
      · exact cbx
      refine wpAnyH_take (i := 0) (oi := ⟨some 30, _, _, _, _, _⟩) (v := (.pointer (some ⟨B, 0, none⟩))) rfl (by kernel_rfl) (by kernel_rfl) (by kernel_rfl) (fun _ _ _ h => h) (yields_cell (by rfl) 40 _ rfl ⟨c, 0, none⟩ rfl _ _ (fun W' hS => hS) Try.underlying40 rfl) (by assumption) ?_
      try simp only [Act.put, List.setIfInBounds_toArray, List.set_cons_zero, List.set_cons_succ]
      refine wpAnyH_take (i := 1) (oi := ⟨some 31, _, _, _, _, _⟩) (v := (.pointer (some ⟨B, 0, none⟩))) rfl (by kernel_rfl) (by kernel_rfl) (by kernel_rfl) (fun _ _ _ h => h) (yields_cell (by rfl) 40 _ rfl ⟨c, 0, none⟩ rfl _ _ (fun W' hS => hS) Try.underlying40 rfl) (by assumption) ?_
      try simp only [Act.put, List.setIfInBounds_toArray, List.set_cons_zero, List.set_cons_succ]
      refine wpAnyH_take (i := 3) (oi := ⟨some 33, _, _, _, _, _⟩) (v := ?_) rfl (by kernel_rfl) (by kernel_rfl) (by kernel_rfl) (fun _ _ _ h => h) (Or.inl ⟨by rfl, ?_⟩) (by assumption) ?_
      rotate_left
      · intro w hSw; (try dsimp only at hSw); go_simp; try (with_reducible rfl)
      rotate_left 0
      try simp only [Act.put, List.setIfInBounds_toArray, List.set_cons_zero, List.set_cons_succ]
      refine wpAnyH_ready (rs := [2]) (by kernel_rfl) (by simp) ?_
      refine (AllReadyH.cons (o := ⟨some 32, _, _, _, _, _⟩) rfl (fun K hK => ?_) AllReadyH.nil)
      (try rw [if_pos (by rfl)])
      go_simp
      refine (running_any (HP.out.tm.below hbX)).mono ?_
      rintro e Wn ⟨rfl, hbn⟩
      have hbX2 := hbX.trans (hbn.mono hbX.size)
      have cb1 : Wn.cell? ⟨c, 0, none⟩ = some (.pointer (some ⟨B, 0, none⟩)) := by rw [(HP.out.box.below hbX2 HP.out.box.lt).cell]; rfl
      try dsimp only
      refine hK.out _ _ (by first | exact cb3 | exact cb2' | exact cb1) (fun hHeld => ?_)
      clear hK K
      try simp only [Act.put, List.setIfInBounds_toArray, List.set_cons_zero, List.set_cons_succ]
      refine wpAnyH_ready (rs := [4]) (by kernel_rfl) (by simp) ?_
      refine (AllReadyH.cons (o := ⟨some 34, _, _, _, _, _⟩) rfl (fun K hK => ?_) AllReadyH.nil)
      (try rw [if_pos (by rfl)])
      go_simp
      refine (delete_any (HP.out.tm.below hbX2) (HP.out.box.below hbX2 HP.out.box.lt) HOK.out).mono ?_
      rintro e Wd ⟨rfl, ⟨G, hgB, hG0, hGk⟩, hgd⟩
      have hbox : Blk Wd c 40 #[.pointer (some ⟨B, 0, none⟩)] := (HP.out.box.below hbX2 HP.out.box.lt).grown hgd (fun e => by have := HP.out.ord; have := Option.some.inj e; omega)
      have cB := intN_cell hgB (i := 1) (by omega)
      have fB := hgB.frozen 1
      have cb2' : Wd.cell? ⟨c, 0, none⟩ = some (.pointer (some ⟨B, 0, none⟩)) := by rw [hbox.cell]; rfl
      try dsimp only
      refine hK.out _ _ (by first | exact cb3 | exact cb2' | exact cb1) (fun hHeld => ?_)
      clear hK K
      try simp only [Act.put, List.setIfInBounds_toArray, List.set_cons_zero, List.set_cons_succ]
      refine wpAnyH_take (i := 5) (oi := ⟨some 35, _, _, _, _, _⟩) (v := ?_) rfl (by kernel_rfl) (by kernel_rfl) (by kernel_rfl) (fun _ _ _ h => h) (Or.inl ⟨by rfl, ?_⟩) (by assumption) ?_
      rotate_left
      · intro w hSw; (try dsimp only at hSw); go_simp; try (with_reducible rfl)
      rotate_left 0
      try simp only [Act.put, List.setIfInBounds_toArray, List.set_cons_zero, List.set_cons_succ]
      refine wpAnyH_take (i := 6) (oi := ⟨some 36, _, _, _, _, _⟩) (v := ?_) rfl (by kernel_rfl) (by kernel_rfl) (by kernel_rfl) (fun _ _ _ h => h) (Or.inl ⟨by rfl, ?_⟩) (by assumption) ?_
      rotate_left
      · intro w hSw; (try dsimp only at hSw); go_simp; try (with_reducible rfl)
      rotate_left 0
      try simp only [Act.put, List.setIfInBounds_toArray, List.set_cons_zero, List.set_cons_succ]
      refine wpAnyH_take (i := 7) (oi := ⟨some 37, _, _, _, _, _⟩) (v := ?_) rfl (by kernel_rfl) (by kernel_rfl) (by kernel_rfl) (fun _ _ _ h => h) (Or.inl ⟨by rfl, ?_⟩) (by assumption) ?_
      rotate_left
      · intro w hSw; (try dsimp only at hSw); go_simp; try (with_reducible rfl)
      rotate_left 0
      try simp only [Act.put, List.setIfInBounds_toArray, List.set_cons_zero, List.set_cons_succ]
      refine wpAnyH_ready (rs := [8]) (by kernel_rfl) (by simp) ?_
      refine (AllReadyH.cons (o := ⟨none, _, _, _, _, _⟩) rfl (fun K hK => ?_) AllReadyH.nil)
      (try rw [if_pos (by rfl)])
      go_simp
      have cb3 : (Wd.setCell ⟨B, 1, none⟩ (.int .i64 ((keepL (now + 1) l).length : Int))).cell? ⟨c, 0, none⟩ = some (.pointer (some ⟨B, 0, none⟩)) := by rw [(hbox.far (show c ≠ B by have := HP.out.ord; omega) _).cell]; rfl
      try dsimp only
      refine hK.out _ _ (by first | exact cb3 | exact cb2' | exact cb1) (fun hHeld => ?_)
      clear hK K
      try simp only [Act.put, List.setIfInBounds_toArray, List.set_cons_zero, List.set_cons_succ]
      refine wpAnyH_done (by kernel_rfl) ?_ _
      go_wp2_with fail
      go_ret
      have hord := HP.out.ord
      have hP := HP.out.kept hbX2
      have hown := ownK_grown hP.own hgd (by omega)
      rw [HTK.out] at hown
      have hset : ∀ b, b ≠ B → (Wd.setCell ⟨B, 1, none⟩ (.int .i64 ((keepL (now + 1) l).length : Int))).heap[b]? = Wd.heap[b]? := fun b hb => Below.heap_setCell _ _ _ _ hb
      have hk3 : ∀ x ∈ keepL (now + 1) l, x.length = 3 := fun x hx => HTH.out x (List.mem_filter.1 hx).1
      have ho3 : ∀ x ∈ overL (now + 1) l, x.length = 3 := fun x hx => HTH.out x (List.mem_filter.1 hx).1
      have hkl := keepL_le (now + 1) l
      have hol := overL_le (now + 1) l
      have hln := HN.out
      refine ⟨c + 1, rfl, by omega, v, ?_, ?_, fun A m q hv => ?_, ⟨_, setCell_intN hgB (by omega) _, ?_, ?_, by omega, hk3, fun q x hq m hm => ?_⟩, ?_⟩
      · exact (hP.cell.grown hgd (fun e => by have := Option.some.inj e; omega)).far (by show c + 1 ≠ B; omega) _
      · refine rdK_own (e := 25) (base := c + 1 + 1) (n := (overL (now + 1) l).length) ⟨hown.1, ?_⟩ ho3 rfl (by omega)
        rcases hown.2 with h0 | ⟨g, cap, cur, q1, q2, q3, q4⟩
        · exact .inl h0
        · exact .inr ⟨g, cap, cur, q1, q2, (hset _ (by omega)).trans q3, q4⟩
      · subst hv
        rcases hown.2 with ⟨h0, _⟩ | ⟨g, cap, cur, q1, q2, q3, q4⟩
        · cases h0
        · obtain ⟨h0, -, -⟩ := Value.slice.inj q1
          cases h0
          have hg : g < Wd.heap.size := by
            rcases Nat.lt_or_ge g Wd.heap.size with h' | h'
            · exact h'
            · rw [Array.getElem?_eq_none h'] at q3; cases q3
          refine ⟨show c ≤ g by omega, ?_⟩
          simpa [World.setCell] using hg
      · rw [putF_out (by simp)]
        exact hG0
      · have := putF_in (F := G) (off := 1) (xs := [((keepL (now + 1) l).length : Int)]) (i := 0) (by simp)
        simpa using this
      · rw [putF_out (by simp; omega)]
        exact hGk q x hq m hm
      · exact grown_trans' (grown_trans' hP.grown hgd) (grown_setCell _ _ _ _)
end Go.Proofs.Ytgcpiaogodgphaa
