/-
  The iterator over the runs of which bytes are made: for all bytes, in whatever memory, whatever the loop's body does without writing what the iterator reads: the runs come in order; one that isn't there whole is the last one.
-/
import Derived.Test.YtjdgcciemlfapaaPackCut
import Derived.Test.YtjdgcciemlfapaaSeqN
import Derived.Test.YtjdgcciemlfapaaPackWrite
import Derived.Shelf.Abstract
import Derived.Shelf.RegionOpen
import Derived.TacticsInMore
import Derived.LoopNIn
import Derived.LoopIn
namespace Go.Proofs.Ytjdgcciemlfapaa
open Go Go.RowKit PackMath
attribute [local go_sem] Oper.semAt_some

/-- What the iterator hands out: the runs; 'none' where one isn't there whole. -/
def steps (s : List UInt8) : List (Option (List UInt8)) := if _h : s = [] then [] else match _e : take3 s with
  | none => [none]
  | some (x, r) => some x :: steps r
termination_by s.length
decreasing_by
  have := take3_short _e
  omega
theorem steps_nil : steps [] = [] := by rw [steps, dif_pos rfl]
theorem steps_none {s : List UInt8} (h : s ≠ []) (e : take3 s = none) : steps s = [none] := by
  rw [steps, dif_neg h]
  split
  · rfl
  · rename_i x r e'
    rw [e] at e'; cases e'
theorem steps_some {s x r : List UInt8} (h : s ≠ []) (e : take3 s = some (x, r)) : steps s = some x :: steps r := by
  rw [steps, dif_neg h]
  split
  · rename_i e'
    rw [e] at e'; cases e'
  · rename_i x' r' e'
    rw [e] at e'
    injection e' with e'
    injection e' with h1 h2
    rw [h1, h2]
def EncR (x : Option (List UInt8)) (o : Nat → Prop) (W : World) (vs : Array Value) : Prop :=
  match x with
  | none => vs = #[.slice none 0 0, .bool false]
  | some bs => ∃ A c, vs = #[.slice A bs.length c, .bool true] ∧ RdB W (fun b => b < W.heap.size ∧ ¬ o b) (.slice A bs.length c) bs
def lenAt (B : Nat) (W : World) : Nat := match W.cell? ⟨B, 0, none⟩ with
  | some (.slice _ n _) => n
  | _ => 0
/-- What holds between two runs. -/
def RunR (B D : Nat) (bs : List UInt8) (W0 : World) (J : List (Option (List UInt8)) → (Nat → Prop) → World → Prop) (wr : World) : Prop :=
  ∃ (s : List UInt8) (pre : List (Option (List UInt8))) (o : Nat → Prop) (A : Option Addr) (c : Nat), Blk wr B 24 #[.slice A s.length c] ∧ RdB wr (fun b => b < D) (.slice A s.length c) s ∧ pre ++ steps s = steps bs ∧ J pre o wr ∧ ¬ o B ∧ (∀ b, o b → D ≤ b) ∧ W0.heap.size ≤ wr.heap.size
set_option maxRecDepth 100000 in
set_option maxHeartbeats 2000000 in
theorem runs_seq (B D : Nat) (A : Option Addr) (c : Nat) (bs : List UInt8) (w : World) (hD : D ≤ B) (hbx : Blk w B 24 #[.slice A bs.length c]) (hr : RdB w (fun b => b < D) (.slice A bs.length c) bs) :
    SeqN Try.prog 57 #[.pointer (some ⟨B, 0, none⟩)] EncR (fun b => b = B) (fun o => ¬ o B ∧ ∀ b, o b → D ≤ b) (steps bs) w := by
  intro y J Jx o W hW hJ hJx hY h0 hPre
  obtain ⟨hoB, hoD⟩ := hPre
  have hxl := hbx.lt
  have H0 : Hid (RunR B D bs W J W) := Lib.hid ⟨bs, [], o, A, c, hbx.below hW hxl, hr.kept (fun a x ha h => (hW.cell (p := a) (Nat.lt_of_lt_of_le ha (Nat.le_trans hD (Nat.le_of_lt hxl)))).trans h), rfl, h0, hoB, hoD, Nat.le_refl _⟩
  have hBW : Hid (B < W.heap.size) := Lib.hid (Nat.lt_of_lt_of_le hxl hW.size)
  have HD := Lib.hid hD
  have HJ := Lib.hid hJ
  have HJx := Lib.hid hJx
  have HY := Lib.hid hY
  clear hW hJ hJx hY h0 hoB hoD hbx hr hxl hD
  refine callsIn_of_wp Try.func57 rfl trivial ?_ rfl
  simp only [Try.ntmps57, List.size_toArray, List.length_cons, List.length_nil, Nat.reduceAdd, Nat.reduceSub, Array.replicate_succ, Array.replicate_zero, List.push_toArray, List.append_toArray, List.nil_append, List.cons_append]
  gi_wp2
  gi_loopw [3] (fun _ wr => RunR B D bs W J wr) (fun _ wr => lenAt B wr)
  case atStart => exact H0.out
  case round =>
    obtain ⟨s, pre, o', A', c', hB, hrd, hpre, hJ, hoB, hoD, hsz⟩ := hrel
    have hcell : wr.cell? ⟨B, 0, none⟩ = some (.slice A' s.length c') := by rw [hB.cell]; rfl
    have hlen : lenAt B wr = s.length := by unfold lenAt; rw [hcell]
    have HLEN := Lib.hid hlen
    have HB := Lib.hid hB
    have HJ' := Lib.hid hJ
    have HRD := Lib.hid hrd
    have HPRE := Lib.hid hpre
    have HOB := Lib.hid hoB
    have HOD := Lib.hid hoD
    have HSZ := Lib.hid hsz
    clear hB hJ hrd hpre hoB hoD hsz hlen
    by_cases h0 : s = []
    · have HFIN : Hid (pre = steps bs) := Lib.hid (by have := HPRE.out; rw [h0, steps_nil, List.append_nil] at this; exact this)
      subst h0
      gi_wp2
      go_end0
      exact ⟨⟨_, rfl⟩, .inl ⟨o', by rw [← HFIN.out]; exact HJ'.out⟩⟩
    · obtain ⟨n, hn⟩ : ∃ n, s.length = n := ⟨_, rfl⟩
      have hn0 : (0 : Int) < (n : Int) := by have := List.length_pos_iff.2 h0; omega
      have HN := Lib.hid hn
      have CUT := Lib.hid (fun W' (hb : Below wr.heap.size wr W') => cutRun_any A' c' s (fun b => b < D) W' (HRD.out.kept (fun a x ha h => (hb.cell (p := a) (Nat.lt_of_lt_of_le ha (Nat.le_trans (Nat.le_trans HD.out (Nat.le_of_lt hBW.out)) HSZ.out))).trans h)))
      rw [hn] at hcell CUT
      cases e3 : take3 s with
      | none =>
        have hst := steps_none h0 e3
        have HPX : Hid (pre ++ [none] = steps bs) := Lib.hid (by rw [← hst]; exact HPRE.out)
        have CUT2 : Hid (∀ e, CutOut wr (fun b => b < D) s e → e = .returned (.tuple #[.slice none 0 0, .slice none 0 0, .bool false])) := Lib.hid fun e h => by unfold CutOut at h; rw [e3] at h; exact h
        clear hn h0 hst e3
        gi_wp2_with (first
          | (refine ⟨trivial, rfl, ?_⟩; gi_at_call 49; refine (callsIn_wide.2 (CUT.out wr (Below.refl _ _))).mono ?_; rintro e w1 ⟨hout, hb1⟩; obtain rfl := CUT2.out e hout; clear hout; obtain ⟨fn, tm, assign, bd, hy, hR1⟩ := HY.out pre none #[.slice none 0 0, .bool false] o' w1 (by rw [HPX.out]; exact List.prefix_refl _) (HJ.out.stay _ _ _ _ HJ'.out (.of_below hb1)) (Nat.le_trans HSZ.out hb1.size) rfl; clear hb1)
          | (refine ⟨rfl, ?_⟩; refine hR1.mono ?_; clear hR1; rintro e W' (⟨rfl, ⟨o2, hJ2, hgo⟩, hk2⟩ | ⟨rfl, o2, hJx2⟩)))
        · refine bodyPost_ret (results_none rfl _ _ _) rfl ?_
          exact ⟨⟨_, rfl⟩, .inl ⟨o2, by rw [← HPX.out]; exact hJ2⟩⟩
        · refine bodyPost_ret (results_none rfl _ _ _) rfl ?_
          exact ⟨⟨_, rfl⟩, .inr ⟨_, o2, by rw [← HPX.out]; exact List.prefix_refl _, by simp, hJx2⟩⟩
      | some xr =>
        obtain ⟨x, r⟩ := xr
        have hst := steps_some h0 e3
        have hsh := take3_short e3
        have HPX : Hid (pre ++ [some x] ++ steps r = steps bs) := Lib.hid (by rw [List.append_assoc, List.singleton_append, ← hst]; exact HPRE.out)
        have HPF : Hid ((pre ++ [some x]) <+: steps bs) := Lib.hid ⟨_, HPX.out⟩
        have HSH : Hid (r.length < s.length) := Lib.hid (by omega)
        have CUT2 : Hid (∀ e, CutOut wr (fun b => b < D) s e → ∃ A1 c1 A2 c2, e = .returned (.tuple #[.slice A1 x.length c1, .slice A2 r.length c2, .bool true]) ∧ RdB wr (fun b => b < D) (.slice A1 x.length c1) x ∧ RdB wr (fun b => b < D) (.slice A2 r.length c2) r) := Lib.hid fun e h => by unfold CutOut at h; rw [e3] at h; exact h
        obtain ⟨nx, hnx⟩ : ∃ nx, x.length = nx := ⟨_, rfl⟩
        obtain ⟨nr, hnr⟩ : ∃ nr, r.length = nr := ⟨_, rfl⟩
        have HNX := Lib.hid hnx
        have HNR := Lib.hid hnr
        rw [hnx, hnr] at CUT2
        have HOl : Hid (∀ b, o' b → b < wr.heap.size) := Lib.hid fun b hb => HJ.out.lt HJ'.out hb
        clear hn h0 hst e3 hsh hnx hnr
        gi_wp2_with (first
          | (refine ⟨trivial, rfl, ?_⟩; gi_at_call 49; refine (callsIn_wide.2 (CUT.out wr (Below.refl _ _))).mono ?_; rintro e w1 ⟨hout, hb1⟩; obtain ⟨A1, c1, A2, c2, rfl, hrx, hrr⟩ := CUT2.out e hout; clear hout; replace hcell := (hb1.cell (p := ⟨B, 0, none⟩) HB.out.lt).trans hcell; replace hrr := hrr.kept (W' := w1) (fun a x ha h => (hb1.cell (p := a) (Nat.lt_of_lt_of_le ha (Nat.le_trans (Nat.le_trans HD.out (Nat.le_of_lt hBW.out)) HSZ.out))).trans h); replace hrx := hrx.kept (W' := w1) (fun a x ha h => (hb1.cell (p := a) (Nat.lt_of_lt_of_le ha (Nat.le_trans (Nat.le_trans HD.out (Nat.le_of_lt hBW.out)) HSZ.out))).trans h); have hB1 := HB.out.below hb1 HB.out.lt; obtain ⟨fn, tm, assign, bd, hy, hR1⟩ := HY.out pre (some x) #[.slice A1 nx c1, .bool true] o' w1 HPF.out (HJ.out.stay _ _ _ _ HJ'.out (.of_below hb1)) (Nat.le_trans HSZ.out hb1.size) ⟨A1, c1, by rw [HNX.out], by rw [HNX.out]; exact hrx.mono fun b hb => ⟨Nat.lt_of_lt_of_le hb (Nat.le_trans (Nat.le_trans (Nat.le_trans HD.out (Nat.le_of_lt hBW.out)) HSZ.out) hb1.size), fun ho => by have := HOD.out b ho; omega⟩⟩; have HSZ1 := Lib.hid (Nat.le_trans HSZ.out hb1.size); have HRR := Lib.hid hrr; have HB1 := Lib.hid hB1; have HSW := Lib.hid hb1.size; clear hb1 hrx hrr hB1)
          | (refine ⟨rfl, ?_⟩; refine hR1.mono ?_; clear hR1; rintro e W' (H | H) <;> first | (obtain ⟨rfl, ⟨o2, hJ2, hgo⟩, hk2⟩ := H; have hB2 := HB1.out.kept hk2 HOB.out; have hcell2 : W'.cell? ⟨B, 0, none⟩ = some (.slice A' n c') := (by rw [hB2.cell, HN.out]; rfl); have hfz2 := hB2.frozen 0; clear hcell; have HB2 := Lib.hid hB2; have HK2 := Lib.hid hk2; have HJ2 := Lib.hid hJ2; have HGO := Lib.hid hgo; clear hB2 hk2 hJ2 hgo) | (obtain ⟨rfl, o2, hJx2⟩ := H)))
        · have hBl := HB1.out.lt
          have hno : ¬ o2 B := fun h => (HGO.out B h).elim HOB.out fun h => by omega
          have hsB := HB2.out.store 0 (.slice A2 nr c2)
          have hlt : (W'.setCell ⟨B, 0, none⟩ (.slice A2 nr c2)).cell? ⟨B, 0, none⟩ = some (.slice A2 nr c2) := by rw [hsB.cell]; rfl
          refine ⟨⟨r, pre ++ [some x], o2, A2, c2, by rw [HNR.out]; exact hsB, ?_, HPX.out, HJ.out.stay _ _ _ _ HJ2.out (StayN.setCell _ _ _ (.inr rfl) hno), hno, ?_, ?_⟩, ?_⟩
          · rw [HNR.out]
            exact HRR.out.kept fun a v ha h => (((Below.refl D W').setCell (p := ⟨B, 0, none⟩) HD.out (.slice A2 nr c2)).cell (p := a) ha).trans (cell_keep HK2.out (fun ho => by have := HOD.out _ ho; omega) h)
          · intro b hb
            rcases HGO.out b hb with h | h
            · exact HOD.out b h
            · have := HD.out
              omega
          · exact Nat.le_trans (Nat.le_trans HSZ1.out HK2.out.size) (by simp [World.setCell])
          · rw [HLEN.out]
            unfold lenAt
            rw [hlt]
            have := HSH.out
            have := HNR.out
            simp only
            omega
        · refine bodyPost_ret (results_none rfl _ _ _) rfl ?_
          exact ⟨⟨_, rfl⟩, .inr ⟨_, o2, HPF.out, by simp, hJx2⟩⟩
end Go.Proofs.Ytjdgcciemlfapaa
