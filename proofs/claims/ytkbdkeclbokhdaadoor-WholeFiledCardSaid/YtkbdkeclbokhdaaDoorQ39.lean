/-
  The iterator over the runs of which bytes are made: for all bytes, in whatever memory, whatever the loop's body does without writing what the iterator reads: the runs come in order; one that isn't there whole is the last one.
  What pack.readList wants: the maker of the iterator over runs, an append of one value onto a row of the call's own, what holds between two entries. For entries of any number.
-/
import Derived.Test.YtkbdkeclbokhdaaDoorPackCut
import Derived.Test.YtkbdkeclbokhdaaDoorSeqN
import Derived.Test.YtkbdkeclbokhdaaDoorPackWrite
import Derived.Shelf.Abstract
import Derived.Shelf.RegionOpen
import Derived.TacticsInMore
import Derived.LoopNIn
import Derived.LoopIn
import Derived.Test.YtkbdkeclbokhdaaDoorQ12
namespace Go.Proofs.YtkbdkeclbokhdaaDoor
open Go Go.RowKit PackMath
attribute [local go_sem] Oper.semAt_some

/-- What the iterator hands out: the runs; 'none' where one isn't there whole. -/
def steps (s : List UInt8) : List (Option (List UInt8)) := if _h : s = [] then [] else match _e : take3 s with
  | none => [none]
  | some (x, r) => some x :: steps r
termination_by s.length
decreasing_by
  have := take3_short _e
  omega
theorem steps_nil : steps [] = [] := by rw [steps, dif_pos rfl]
theorem steps_none {s : List UInt8} (h : s ≠ []) (e : take3 s = none) : steps s = [none] := by
  rw [steps, dif_neg h]
  split
  · rfl
  · rename_i x r e'
    rw [e] at e'; cases e'
theorem steps_some {s x r : List UInt8} (h : s ≠ []) (e : take3 s = some (x, r)) : steps s = some x :: steps r := by
  rw [steps, dif_neg h]
  split
  · rename_i e'
    rw [e] at e'; cases e'
  · rename_i x' r' e'
    rw [e] at e'
    injection e' with e'
    injection e' with h1 h2
    rw [h1, h2]
def EncR (x : Option (List UInt8)) (o : Nat → Prop) (W : World) (vs : Array Value) : Prop :=
  match x with
  | none => vs = #[.slice none 0 0, .bool false]
  | some bs => ∃ A c, vs = #[.slice A bs.length c, .bool true] ∧ RdB W (fun b => b < W.heap.size ∧ ¬ o b) (.slice A bs.length c) bs
def lenAt (B : Nat) (W : World) : Nat := match W.cell? ⟨B, 0, none⟩ with
  | some (.slice _ n _) => n
  | _ => 0
/-- What holds between two runs. -/
def RunR (B D : Nat) (bs : List UInt8) (W0 : World) (J : List (Option (List UInt8)) → (Nat → Prop) → World → Prop) (wr : World) : Prop :=
  ∃ (s : List UInt8) (pre : List (Option (List UInt8))) (o : Nat → Prop) (A : Option Addr) (c : Nat), Blk wr B 42 #[.slice A s.length c] ∧ RdB wr (fun b => b < D) (.slice A s.length c) s ∧ pre ++ steps s = steps bs ∧ J pre o wr ∧ ¬ o B ∧ (∀ b, o b → D ≤ b) ∧ W0.heap.size ≤ wr.heap.size
set_option maxRecDepth 100000 in
set_option maxHeartbeats 2000000 in
theorem runs_seq (B D : Nat) (A : Option Addr) (c : Nat) (bs : List UInt8) (w : World) (hD : D ≤ B) (hbx : Blk w B 42 #[.slice A bs.length c]) (hr : RdB w (fun b => b < D) (.slice A bs.length c) bs) :
    SeqN Tryd.prog 89 #[.pointer (some ⟨B, 0, none⟩)] EncR (fun b => b = B) (fun o => ¬ o B ∧ ∀ b, o b → D ≤ b) (steps bs) w := by
  intro y J Jx o W hW hJ hJx hY h0 hPre
  obtain ⟨hoB, hoD⟩ := hPre
  have hxl := hbx.lt
  have H0 : Hid (RunR B D bs W J W) := Lib.hid ⟨bs, [], o, A, c, hbx.below hW hxl, hr.kept (fun a x ha h => (hW.cell (p := a) (Nat.lt_of_lt_of_le ha (Nat.le_trans hD (Nat.le_of_lt hxl)))).trans h), rfl, h0, hoB, hoD, Nat.le_refl _⟩
  have hBW : Hid (B < W.heap.size) := Lib.hid (Nat.lt_of_lt_of_le hxl hW.size)
  have HD := Lib.hid hD
  have HJ := Lib.hid hJ
  have HJx := Lib.hid hJx
  have HY := Lib.hid hY
  clear hW hJ hJx hY h0 hoB hoD hbx hr hxl hD
  refine callsIn_of_wp Tryd.func89 rfl trivial ?_ rfl
  simp only [Tryd.ntmps89, List.size_toArray, List.length_cons, List.length_nil, Nat.reduceAdd, Nat.reduceSub, Array.replicate_succ, Array.replicate_zero, List.push_toArray, List.append_toArray, List.nil_append, List.cons_append]
  gi_wp2
  gi_loopw [3] (fun _ wr => RunR B D bs W J wr) (fun _ wr => lenAt B wr)
  case atStart => exact H0.out
  case round =>
    obtain ⟨s, pre, o', A', c', hB, hrd, hpre, hJ, hoB, hoD, hsz⟩ := hrel
    have hcell : wr.cell? ⟨B, 0, none⟩ = some (.slice A' s.length c') := by rw [hB.cell]; rfl
    have hlen : lenAt B wr = s.length := by unfold lenAt; rw [hcell]
    have HLEN := Lib.hid hlen
    have HB := Lib.hid hB
    have HJ' := Lib.hid hJ
    have HRD := Lib.hid hrd
    have HPRE := Lib.hid hpre
    have HOB := Lib.hid hoB
    have HOD := Lib.hid hoD
    have HSZ := Lib.hid hsz
    clear hB hJ hrd hpre hoB hoD hsz hlen
    by_cases h0 : s = []
    · have HFIN : Hid (pre = steps bs) := Lib.hid (by have := HPRE.out; rw [h0, steps_nil, List.append_nil] at this; exact this)
      subst h0
      gi_wp2
      go_end0
      exact ⟨⟨_, rfl⟩, .inl ⟨o', by rw [← HFIN.out]; exact HJ'.out⟩⟩
    · obtain ⟨n, hn⟩ : ∃ n, s.length = n := ⟨_, rfl⟩
      have hn0 : (0 : Int) < (n : Int) := by have := List.length_pos_iff.2 h0; omega
      have HN := Lib.hid hn
      have CUT := Lib.hid (fun W' (hb : Below wr.heap.size wr W') => cutRun_any A' c' s (fun b => b < D) W' (HRD.out.kept (fun a x ha h => (hb.cell (p := a) (Nat.lt_of_lt_of_le ha (Nat.le_trans (Nat.le_trans HD.out (Nat.le_of_lt hBW.out)) HSZ.out))).trans h)))
      rw [hn] at hcell CUT
      cases e3 : take3 s with
      | none =>
        have hst := steps_none h0 e3
        have HPX : Hid (pre ++ [none] = steps bs) := Lib.hid (by rw [← hst]; exact HPRE.out)
        have CUT2 : Hid (∀ e, CutOut wr (fun b => b < D) s e → e = .returned (.tuple #[.slice none 0 0, .slice none 0 0, .bool false])) := Lib.hid fun e h => by unfold CutOut at h; rw [e3] at h; exact h
        clear hn h0 hst e3
        gi_wp2_with (first
          | (refine ⟨trivial, rfl, ?_⟩; gi_at_call 75; refine (callsIn_wide.2 (CUT.out wr (Below.refl _ _))).mono ?_; rintro e w1 ⟨hout, hb1⟩; obtain rfl := CUT2.out e hout; clear hout; obtain ⟨fn, tm, assign, bd, hy, hR1⟩ := HY.out pre none #[.slice none 0 0, .bool false] o' w1 (by rw [HPX.out]; exact List.prefix_refl _) (HJ.out.stay _ _ _ _ HJ'.out (.of_below hb1)) (Nat.le_trans HSZ.out hb1.size) rfl; clear hb1)
          | (refine ⟨rfl, ?_⟩; refine hR1.mono ?_; clear hR1; rintro e W' (⟨rfl, ⟨o2, hJ2, hgo⟩, hk2⟩ | ⟨rfl, o2, hJx2⟩)))
        · refine bodyPost_ret (results_none rfl _ _ _) rfl ?_
          exact ⟨⟨_, rfl⟩, .inl ⟨o2, by rw [← HPX.out]; exact hJ2⟩⟩
        · refine bodyPost_ret (results_none rfl _ _ _) rfl ?_
          exact ⟨⟨_, rfl⟩, .inr ⟨_, o2, by rw [← HPX.out]; exact List.prefix_refl _, by simp, hJx2⟩⟩
      | some xr =>
        obtain ⟨x, r⟩ := xr
        have hst := steps_some h0 e3
        have hsh := take3_short e3
        have HPX : Hid (pre ++ [some x] ++ steps r = steps bs) := Lib.hid (by rw [List.append_assoc, List.singleton_append, ← hst]; exact HPRE.out)
        have HPF : Hid ((pre ++ [some x]) <+: steps bs) := Lib.hid ⟨_, HPX.out⟩
        have HSH : Hid (r.length < s.length) := Lib.hid (by omega)
        have CUT2 : Hid (∀ e, CutOut wr (fun b => b < D) s e → ∃ A1 c1 A2 c2, e = .returned (.tuple #[.slice A1 x.length c1, .slice A2 r.length c2, .bool true]) ∧ RdB wr (fun b => b < D) (.slice A1 x.length c1) x ∧ RdB wr (fun b => b < D) (.slice A2 r.length c2) r) := Lib.hid fun e h => by unfold CutOut at h; rw [e3] at h; exact h
        obtain ⟨nx, hnx⟩ : ∃ nx, x.length = nx := ⟨_, rfl⟩
        obtain ⟨nr, hnr⟩ : ∃ nr, r.length = nr := ⟨_, rfl⟩
        have HNX := Lib.hid hnx
        have HNR := Lib.hid hnr
        rw [hnx, hnr] at CUT2
        have HOl : Hid (∀ b, o' b → b < wr.heap.size) := Lib.hid fun b hb => HJ.out.lt HJ'.out hb
        clear hn h0 hst e3 hsh hnx hnr
        gi_wp2_with (first
          | (refine ⟨trivial, rfl, ?_⟩; gi_at_call 75; refine (callsIn_wide.2 (CUT.out wr (Below.refl _ _))).mono ?_; rintro e w1 ⟨hout, hb1⟩; obtain ⟨A1, c1, A2, c2, rfl, hrx, hrr⟩ := CUT2.out e hout; clear hout; replace hcell := (hb1.cell (p := ⟨B, 0, none⟩) HB.out.lt).trans hcell; replace hrr := hrr.kept (W' := w1) (fun a x ha h => (hb1.cell (p := a) (Nat.lt_of_lt_of_le ha (Nat.le_trans (Nat.le_trans HD.out (Nat.le_of_lt hBW.out)) HSZ.out))).trans h); replace hrx := hrx.kept (W' := w1) (fun a x ha h => (hb1.cell (p := a) (Nat.lt_of_lt_of_le ha (Nat.le_trans (Nat.le_trans HD.out (Nat.le_of_lt hBW.out)) HSZ.out))).trans h); have hB1 := HB.out.below hb1 HB.out.lt; obtain ⟨fn, tm, assign, bd, hy, hR1⟩ := HY.out pre (some x) #[.slice A1 nx c1, .bool true] o' w1 HPF.out (HJ.out.stay _ _ _ _ HJ'.out (.of_below hb1)) (Nat.le_trans HSZ.out hb1.size) ⟨A1, c1, by rw [HNX.out], by rw [HNX.out]; exact hrx.mono fun b hb => ⟨Nat.lt_of_lt_of_le hb (Nat.le_trans (Nat.le_trans (Nat.le_trans HD.out (Nat.le_of_lt hBW.out)) HSZ.out) hb1.size), fun ho => by have := HOD.out b ho; omega⟩⟩; have HSZ1 := Lib.hid (Nat.le_trans HSZ.out hb1.size); have HRR := Lib.hid hrr; have HB1 := Lib.hid hB1; have HSW := Lib.hid hb1.size; clear hb1 hrx hrr hB1)
          | (refine ⟨rfl, ?_⟩; refine hR1.mono ?_; clear hR1; rintro e W' (H | H) <;> first | (obtain ⟨rfl, ⟨o2, hJ2, hgo⟩, hk2⟩ := H; have hB2 := HB1.out.kept hk2 HOB.out; have hcell2 : W'.cell? ⟨B, 0, none⟩ = some (.slice A' n c') := (by rw [hB2.cell, HN.out]; rfl); have hfz2 := hB2.frozen 0; clear hcell; have HB2 := Lib.hid hB2; have HK2 := Lib.hid hk2; have HJ2 := Lib.hid hJ2; have HGO := Lib.hid hgo; clear hB2 hk2 hJ2 hgo) | (obtain ⟨rfl, o2, hJx2⟩ := H)))
        · have hBl := HB1.out.lt
          have hno : ¬ o2 B := fun h => (HGO.out B h).elim HOB.out fun h => by omega
          have hsB := HB2.out.store 0 (.slice A2 nr c2)
          have hlt : (W'.setCell ⟨B, 0, none⟩ (.slice A2 nr c2)).cell? ⟨B, 0, none⟩ = some (.slice A2 nr c2) := by rw [hsB.cell]; rfl
          refine ⟨⟨r, pre ++ [some x], o2, A2, c2, by rw [HNR.out]; exact hsB, ?_, HPX.out, HJ.out.stay _ _ _ _ HJ2.out (StayN.setCell _ _ _ (.inr rfl) hno), hno, ?_, ?_⟩, ?_⟩
          · rw [HNR.out]
            exact HRR.out.kept fun a v ha h => (((Below.refl D W').setCell (p := ⟨B, 0, none⟩) HD.out (.slice A2 nr c2)).cell (p := a) ha).trans (cell_keep HK2.out (fun ho => by have := HOD.out _ ho; omega) h)
          · intro b hb
            rcases HGO.out b hb with h | h
            · exact HOD.out b h
            · have := HD.out
              omega
          · exact Nat.le_trans (Nat.le_trans HSZ1.out HK2.out.size) (by simp [World.setCell])
          · rw [HLEN.out]
            unfold lenAt
            rw [hlt]
            have := HSH.out
            have := HNR.out
            simp only
            omega
        · refine bodyPost_ret (results_none rfl _ _ _) rfl ?_
          exact ⟨⟨_, rfl⟩, .inr ⟨_, o2, HPF.out, by simp, hJx2⟩⟩
end Go.Proofs.YtkbdkeclbokhdaaDoor
namespace Go.Proofs.YtkbdkeclbokhdaaDoor
open Go Go.RowKit PackMath
attribute [local go_sem] Oper.semAt_some

/-- The iterator's elements and the runs. -/
theorem steps_all (s : List UInt8) : (∃ es : List (List UInt8), runs s = some es ∧ steps s = es.map some) ∨ (runs s = none ∧ ∃ es : List (List UInt8), steps s = es.map some ++ [none]) := by
  generalize hn : s.length = n
  induction n using Nat.strongRecOn generalizing s with
  | _ n ih =>
    by_cases h : s = []
    · subst h
      exact .inl ⟨[], by rw [runs, dif_pos rfl], steps_nil⟩
    · cases e : take3 s with
      | none =>
        refine .inr ⟨?_, [], by rw [steps_none h e]; rfl⟩
        rw [runs, dif_neg h]
        split
        · rfl
        · rename_i x r e'
          rw [e] at e'; cases e'
      | some xr =>
        obtain ⟨x, r⟩ := xr
        have hr : runs s = (runs r).map (x :: ·) := by
          rw [runs, dif_neg h]
          split
          · rename_i e'
            rw [e] at e'; cases e'
          · rename_i x' r' e'
            rw [e] at e'
            injection e' with e'
            injection e' with h1 h2
            rw [h1, h2]
        rw [hr, steps_some h e]
        rcases ih r.length (by have := take3_short e; omega) r rfl with ⟨es, h1, h2⟩ | ⟨h1, es, h2⟩
        · exact .inl ⟨x :: es, by rw [h1]; rfl, by rw [h2]; rfl⟩
        · exact .inr ⟨by rw [h1]; rfl, x :: es, by rw [h2]; rfl⟩
theorem results_cells {P : Program} {fn : Func} {p q : Tmp} {ty ty' : TypeId} (h : fn.results = #[.cell p ty, .cell q ty']) (tmps : Array Value) (w : World) (a b : Addr) (x y : Value)
    (hp : tmps.getD p undef = .pointer (some a)) (hq : tmps.getD q undef = .pointer (some b)) (hx : (Go.loadVar ty a).run P w = .ok x w) (hy : (Go.loadVar ty' b).run P w = .ok y w) :
    (results fn tmps).run P w = .ok (.tuple #[x, y]) w := by
  have hp' : tmps[p]?.getD undef = .pointer (some a) := by simpa using hp
  have hq' : tmps[q]?.getD undef = .pointer (some b) := by simpa using hq
  simp [results, h, hp', hq', asAddr, hx, hy]
theorem run_loadVar_cell {P : Program} {ty : TypeId} {d : TypeDesc} {a : Addr} {v : Value} {w : World} (hu : P.underlying ty = some d) (hd : (match d with | .struct _ | .array _ _ => true | _ => false) = false) (hc : w.cell? a = some v) :
    (Go.loadVar ty a).run P w = .ok v w := by
  have hagg : (isAgg ty).run P w = .ok false w := by
    unfold isAgg
    rw [Sem.run_bind, run_underlying hu w]
    cases d <;> simp_all
  simp [loadVar, Sem.run_bind, hagg, hc, go_sem]
theorem steps_some_only {s : List UInt8} {es : List (List UInt8)} (h : steps s = es.map some) : runs s = some es := by
  rcases steps_all s with ⟨es', h1, h2⟩ | ⟨_, es', h2⟩
  · rw [h] at h2
    rw [h1, (List.map_inj_right fun x y e => Option.some.inj e).1 h2]
  · rw [h] at h2
    have : (none : Option (List UInt8)) ∈ es.map some := by rw [h2]; simp
    simp at this
theorem steps_none_in {s : List UInt8} {pre : List (Option (List UInt8))} (h : pre <+: steps s) (hn : none ∈ pre) : runs s = none := by
  rcases steps_all s with ⟨es', h1, h2⟩ | ⟨h1, es', h2⟩
  · have := h.subset hn
    rw [h2] at this
    simp at this
  · exact h1
/-- One value more. -/
theorem info_row : (Tryd.prog.info? 42).map (fun i => (i.zero, i.size, i.bytes)) = some (some (.slice none 0 0), 1, 24) := by kernel_rfl
theorem app_val {B : Nat} {w : World} (hB : B ≤ w.heap.size) {v : Value} {n : Nat} {xs : List Value} (hown : w.ownsRow B 42 1 v n xs) (x : Value) (hx : x.oneCell' = true) {g0 : Nat} (hg0 : Blk w g0 42 #[x]) (hn : n ≤ 1000) :
    ∃ g cap w', (Builtin.append_ #[57, 57] 57 #[v, .slice (some ⟨g0, 0, none⟩) 1 1]).run Tryd.prog w = .ok (.slice (some ⟨g, 0, none⟩) (n + 1) cap) w' ∧
      w'.ownsRow B 42 1 (.slice (some ⟨g, 0, none⟩) (n + 1) cap) (n + 1) (xs ++ [x]) ∧ w.grownBy w' v.ownBlock ∧ (v.ownBlock = some g ∨ g = w.heap.size) := by
  obtain ⟨i0, hi, hz0, hz1, hz2⟩ := info_parts info_row
  obtain ⟨v', w', hrun, hown', hgr, _, hbl⟩ := run_append_own_at (P := Tryd.prog) w B 57 57 42 i0 (.slice none 0 0) 1 24 Tryd.underlying57 hi hz0 hz1 hz2 rfl (by omega) v n xs hown ⟨g0, 0, none⟩ 1 1 [x] rfl
    (fun j u hu => by
      rcases j with _ | j
      · cases hu
        rw [add_zero_block, hg0.cell]; rfl
      · cases hu) (fun u hu => (List.mem_singleton.1 hu) ▸ hx) (by unfold maxLen; omega) (by omega) hB
  rcases ownsRow_forms' hown' with ⟨_, h0⟩ | ⟨g, cap, rfl⟩
  · omega
  · refine ⟨g, cap, w', hrun, hown', hgr, ?_⟩
    rcases hbl with h | h
    · exact .inl h.symm
    · right
      simpa [Value.ownBlock] using h
set_option maxRecDepth 100000 in
set_option maxHeartbeats 1000000 in
theorem runsIn_any (A : Option Addr) (n c : Nat) (w : World) : CallsIn Fence.wide 0 Tryd.prog 84 #[.slice A n c] w fun e w' => e = .returned (.func (.func 89) #[] #[.pointer (some ⟨w.heap.size, 0, none⟩)]) ∧ w' = w.alloc (.cells #[.slice A n c] 42) := by
  refine callsIn_of_wp Tryd.func84 rfl trivial ?_ rfl
  simp only [Tryd.ntmps84, List.size_toArray, List.length_cons, List.length_nil, Nat.reduceAdd, Nat.reduceSub, Array.replicate_succ, Array.replicate_zero, List.push_toArray, List.append_toArray, List.nil_append, List.cons_append]
  gi_wp2
  go_ret
  exact ⟨rfl, rfl⟩

theorem grown_below {W W' : World} (h : Below W.heap.size W W') (row : Option Nat) : W.grownBy W' row := ⟨h.os, h.tape, h.output, h.size, fun b hb _ => h.block b hb⟩
theorem keep_grown' {o : Nat → Prop} {row : Option Nat} {W W' : World} (h : W.grownBy W' row) (ho : ∀ g, row = some g → o g) : Keep o W W' :=
  ⟨h.size, fun b _ hb _ hn => (h.block b (Array.getElem?_eq_some_iff.1 hb).1 (fun e => hn (ho b e.symm))).trans hb⟩
theorem keepsFrom_grown' {B : Nat} {row : Option Nat} {W W' : World} (h : W.grownBy W' row) (ho : ∀ g, row = some g → ∃ x, W.heap[g]? = some x ∧ x.isCells = true) : KeepsFrom B W W' :=
  ⟨h.size, fun k o _ hk hc => (h.block k (Array.getElem?_eq_some_iff.1 hk).1 (fun e => by
    obtain ⟨x, hx, hxc⟩ := ho k e.symm
    rw [hk] at hx
    cases hx
    rw [hxc] at hc
    cases hc)).trans hk⟩
theorem operIn_app {F : Fence} {n : Nat} {P : Program} {o : Oper} {a : Act} {w : World} {K : Act → World → Prop} {Q : Exit → Act → World → Prop} (hF : ∀ f, F.fn f) (s x : Operand) (t t' : TypeId) (ho : o.op = .call { callee := .builtin .append, args := #[s, x], argTypes := #[t, t'] })
    (vs vx : Value) (hs : a.eval s = vs) (hx : a.eval x = vx) (v : Value) (w' : World) (hrun : (Builtin.append_ #[t, t'] o.type #[vs, vx]).run P w = .ok v w') (h : K (a.put o.dst v) w') : o.wpIn F n P a w K Q := by
  unfold Oper.wpIn
  refine ⟨fun f _ => hF f, ?_⟩
  rw [Oper.semAt_plain F _ _ (by rw [ho]; intro c hc; cases hc)]
  simp [execOp, ho, resolve, invoke, builtin, hs, hx, hrun, Result.andThen]
  exact h
/-- The one block in which a slice lies. -/
theorem RdB.lies {W : World} {ok : Nat → Prop} {A : Option Addr} {n c : Nat} {bs : List UInt8} (h : RdB W ok (.slice A n c) bs) :
    RdB W (fun b => ok b ∧ (∃ ad : Addr, A = some ad ∧ ad.block = b) ∧ ∃ x, W.heap[b]? = some x ∧ x.isCells = true) (.slice A n c) bs := by
  obtain ⟨A', c', hv, h1, h2, h3⟩ := h
  refine ⟨A', c', hv, h1, h2, fun h0 => ?_⟩
  obtain ⟨ad, hA, hok, hc⟩ := h3 h0
  injection hv with e1 e2 e3
  refine ⟨ad, hA, ⟨hok, ⟨ad, e1.trans hA, rfl⟩, ?_⟩, hc⟩
  obtain ⟨o, ho, hoc⟩ := cells_of_cell (hc 0 h0)
  rw [block_add] at ho
  exact ⟨o, ho, hoc⟩
/-- What holds between two entries: B: the heap's size as the call begins; the results lie at B and B + 1, the list's variable at B + 2, the iterator's bytes at B + 3. -/
def InvL (w : World) (B : Nat) (pre : List (Option (List UInt8))) (o : Nat → Prop) (W : World) : Prop :=
  ∃ (es : List (List UInt8)) (v : Value) (n : Nat) (vs : List Value), pre = es.map some ∧ Blk W (B + 2) 57 #[v] ∧ W.ownsRow B 42 1 v n vs ∧ n = (es.take 65).length ∧
    (∀ k, k < n → RdB W (fun b => o b ∧ b ≠ B + 2 ∧ some b ≠ v.ownBlock) (vs.getD k undef) (es.getD k [])) ∧ o (B + 2) ∧ (∀ g, v.ownBlock = some g → o g ∧ g ≠ B + 2) ∧
    (∀ b, o b → (b = B + 2 ∨ B + 4 ≤ b) ∧ ∃ x, W.heap[b]? = some x ∧ x.isCells = true) ∧ Blk W B 57 #[.slice none 0 0] ∧ Blk W (B + 1) 25 #[.int .i64 0] ∧ Below B w W
/-- What holds when a run wasn't there whole. -/
def InvX (w : World) (B : Nat) (c : Code) (pre : List (Option (List UInt8))) (_ : Nat → Prop) (W : World) : Prop :=
  c = .ret ∧ (∃ es : List (List UInt8), pre = es.map some ++ [none]) ∧ Blk W B 57 #[.slice none 0 0] ∧ Blk W (B + 1) 25 #[.int .i64 20] ∧ Below B w W
theorem invL_ab (w : World) (B D : Nat) (hD : B + 4 ≤ D) : AbN (fun b => b = B + 3) D (InvL w B) := by
  refine ⟨fun pre o W W' h hs => ?_, fun pre o W h b hb => ?_⟩
  · obtain ⟨es, v, n, vs, h1, h2, h3, h4, h5, h6, h7, h8, h9, h10, h11⟩ := h
    have hblk : ∀ b, o b → W'.heap[b]? = W.heap[b]? := fun b hb => hs.block b (.inr hb) (by
      obtain ⟨x, hx, _⟩ := (h8 b hb).2
      exact (Array.getElem?_eq_some_iff.1 hx).1)
    refine ⟨es, v, n, vs, h1, (hblk _ h6).trans h2, ownsRow_block h3 fun g hg => hblk g (h7 g hg).1, h4, fun k hk => (h5 k hk).kept fun a x ha hx => (World.cell?_of_block (hblk _ ha.1)).trans hx, h6, h7, fun b hb => ⟨(h8 b hb).1, ?_⟩,
      (hs.block B (.inl ⟨by omega, by omega⟩) h9.lt).trans h9, (hs.block (B + 1) (.inl ⟨by omega, by omega⟩) h10.lt).trans h10, h11.trans ⟨hs.os, hs.tape, hs.output, hs.size, fun b hb => hs.block b (.inl ⟨by omega, by omega⟩) (by have := h9.lt; omega)⟩⟩
    rw [hblk b hb]
    exact (h8 b hb).2
  · obtain ⟨es, v, n, vs, h1, h2, h3, h4, h5, h6, h7, h8, h9, h10, h11⟩ := h
    exact (h8 b hb).2
theorem invX_ab (w : World) (B D : Nat) (hD : B + 4 ≤ D) (c : Code) : AbN (fun b => b = B + 3) D (fun pre o W => InvX w B c pre o W ∧ ∀ b, ¬ o b) := by
  refine ⟨fun pre o W W' h hs => ?_, fun pre o W h b hb => absurd hb (h.2 b)⟩
  obtain ⟨⟨h1, h2, h3, h4, h5⟩, h6⟩ := h
  exact ⟨⟨h1, h2, (hs.block B (.inl ⟨by omega, by omega⟩) h3.lt).trans h3, (hs.block (B + 1) (.inl ⟨by omega, by omega⟩) h4.lt).trans h4, h5.trans ⟨hs.os, hs.tape, hs.output, hs.size, fun b hb => hs.block b (.inl ⟨by omega, by omega⟩) (by have := h3.lt; omega)⟩⟩, h6⟩
end Go.Proofs.YtkbdkeclbokhdaaDoor
