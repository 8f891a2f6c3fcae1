/-
  The count of votes: the iterator over the votes of a kind in a round. No condition.
-/
import Derived.Test.YtbgojlcciealiaaCntPut
import Derived.Shelf.RegionOpen
import Derived.TacticsInMore
import Derived.LoopNIn
import Derived.LoopIn
namespace Go.Proofs.Ytbgojlcciealiaa
open Go Go.RowKit Go.Maps
attribute [local go_sem] Oper.semAt_some

def encV (x : Nat × List UInt8) : Array Value := #[.int .i64 (x.1 : Int), idv x.2]
/-- What the iterator has in its own cells. -/
structure CastAt (W : World) (b1 b2 b3 B : Nat) (r k : Int) : Prop where
  k1 : Blk W b1 28 #[.pointer (some ⟨B, 0, none⟩)]
  k2 : Blk W b2 3 #[.int .i64 r]
  k3 : Blk W b3 3 #[.int .i64 k]
theorem CastAt.same {W W' : World} {b1 b2 b3 B : Nat} {r k : Int} (h : CastAt W b1 b2 b3 B r k) (h1 : W'.heap[b1]? = W.heap[b1]?) (h2 : W'.heap[b2]? = W.heap[b2]?) (h3 : W'.heap[b3]? = W.heap[b3]?) : CastAt W' b1 b2 b3 B r k :=
  ⟨h1.trans h.k1, h2.trans h.k2, h3.trans h.k3⟩
theorem CastAt.below {W W' : World} {b1 b2 b3 B : Nat} {r k : Int} (h : CastAt W b1 b2 b3 B r k) (hb : Below W.heap.size W W') : CastAt W' b1 b2 b3 B r k :=
  h.same (hb.block _ h.k1.lt) (hb.block _ h.k2.lt) (hb.block _ h.k3.lt)
set_option maxRecDepth 100000 in
set_option maxHeartbeats 4000000 in
theorem cast_any (B : Nat) (r k : Int) (W : World) :
    Calls Try.prog 53 #[.pointer (some ⟨B, 0, none⟩), .int .i64 r, .int .i64 k] W fun e w' => e = .returned (.func (.func 67) #[] #[.pointer (some ⟨W.heap.size, 0, none⟩), .pointer (some ⟨W.heap.size + 1, 0, none⟩), .pointer (some ⟨W.heap.size + 1 + 1, 0, none⟩)]) ∧ CastAt w' W.heap.size (W.heap.size + 1) (W.heap.size + 1 + 1) B r k ∧ Below W.heap.size W w' := by
  go_enter Try.func53, Try.ntmps53
  go_wp2_with fail
  go_ret
  refine ⟨rfl, ⟨?_, ?_, ?_⟩, (((Below.refl _ W).alloc (Nat.le_refl _) _).alloc (by simp) _).alloc (by simp; omega) _⟩
  · exact ((Blk.newAt W W.heap.size rfl rfl).alloc _).alloc _
  · exact (Blk.newAt _ _ (by simp) rfl).alloc _
  · exact Blk.newAt _ _ (by simp) rfl
def castK (V : Vt) (r k : Int) (j : Nat) : List (Nat × List UInt8) := (List.range j).filterMap fun (s : Nat) => (V r k (s : Int)).map fun f => (s, f)
theorem castK_none {V : Vt} {r k : Int} {j : Nat} (h : V r k (j : Int) = none) : castK V r k (j + 1) = castK V r k j := by
  unfold castK
  rw [List.range_succ, List.filterMap_append]
  simp [h]
theorem castK_some {V : Vt} {r k : Int} {j : Nat} {x : List UInt8} (h : V r k (j : Int) = some x) : castK V r k (j + 1) = castK V r k j ++ [(j, x)] := by
  unfold castK
  rw [List.range_succ, List.filterMap_append]
  simp [h]
theorem castK_le (V : Vt) (r k : Int) {i j : Nat} (h : i ≤ j) : castK V r k i <+: castK V r k j := by
  obtain ⟨d, rfl⟩ : ∃ d, j = i + d := ⟨j - i, by omega⟩
  unfold castK
  rw [List.range_add, List.filterMap_append]
  exact List.prefix_append _ _
/-- What must stand whenever a round begins. -/
def CastInv (b1 b2 b3 B M n : Nat) (N : Int) (V : Vt) (r k : Int) (W : World) : Prop := CountAt W B M n N V ∧ CastAt W b1 b2 b3 B r k
def CastR (J : List (Nat × List UInt8) → World → Prop) (V : Vt) (r k : Int) (NN : Nat) (W0 : World) (i : Value) (wr : World) : Prop :=
  ∃ j : Nat, j ≤ NN ∧ i = .int .i64 (j : Int) ∧ J (castK V r k j) wr ∧ W0.heap.size ≤ wr.heap.size
set_option maxRecDepth 100000 in
set_option maxHeartbeats 4000000 in
theorem cast_seq (b1 b2 b3 B M n : Nat) (NN : Nat) (V : Vt) (r k : Int) (own : Nat → Prop) (w : World) (hr : wfi r) (hk : wfi k) (hN : NN ≤ 1000) :
    SeqD Try.prog 67 #[.pointer (some ⟨b1, 0, none⟩), .pointer (some ⟨b2, 0, none⟩), .pointer (some ⟨b3, 0, none⟩)] encV own (CastInv b1 b2 b3 B M n NN V r k) (castL NN V r k) w := by
  intro y J Jx W hW hJ hJx hInv hY h0
  have hxs : castL NN V r k = castK V r k NN := rfl
  rw [hxs] at hY ⊢
  have H0 : Hid (CastR J V r k NN W (.int .i64 0) W) := Lib.hid ⟨0, Nat.zero_le _, rfl, h0, Nat.le_refl _⟩
  have HI0 := Lib.hid (hInv _ _ h0)
  have cb1 : W.cell? ⟨b1, 0, none⟩ = some (.pointer (some ⟨B, 0, none⟩)) := by rw [HI0.out.2.k1.cell]; rfl
  have c0 := HI0.out.1.cell0
  have HJ := Lib.hid hJ
  have HINV := Lib.hid hInv
  have HY := Lib.hid hY
  have HW := Lib.hid (And.intro hr hk)
  clear hW hJ hJx hY h0 hInv hr hk hxs
  refine callsIn_of_wp Try.func67 rfl trivial ?_ rfl
  simp only [Try.ntmps67, List.size_toArray, List.length_cons, List.length_nil, Nat.reduceAdd, Nat.reduceSub, Array.replicate_succ, Array.replicate_zero, List.push_toArray, List.append_toArray, List.nil_append, List.cons_append]
  gi_wp2
  gi_loopw [10] (fun i wr => CastR J V r k NN W i wr) (fun i _ => NN - (intOf i).toNat)
  case atStart => exact H0.out
  case round =>
    obtain ⟨j, hj, rfl, hJ', hsz⟩ := hrel
    have HJ' := Lib.hid hJ'
    have HSZ := Lib.hid hsz
    obtain ⟨hci, hca⟩ := HINV.out _ _ hJ'
    have HCI := Lib.hid hci
    have cb1 : wr.cell? ⟨b1, 0, none⟩ = some (.pointer (some ⟨B, 0, none⟩)) := by rw [hca.k1.cell]; rfl
    have cb2 : wr.cell? ⟨b2, 0, none⟩ = some (.int .i64 r) := by rw [hca.k2.cell]; rfl
    have cb3 : wr.cell? ⟨b3, 0, none⟩ = some (.int .i64 k) := by rw [hca.k3.cell]; rfl
    have HLT : Hid (b1 < wr.heap.size ∧ b2 < wr.heap.size ∧ b3 < wr.heap.size) := Lib.hid ⟨hca.k1.lt, hca.k2.lt, hca.k3.lt⟩
    clear hJ' hsz hci hca
    by_cases hlt : j < NN
    · have hjn : (j : Int) < (NN : Int) := by omega
      have hj0 : (0 : Int) ≤ (j : Int) := by omega
      have hj1 : (j : Int) ≤ 1000 := by omega
      have HJW : Hid (wfi (j : Int)) := Lib.hid (WalkArith.wf_i64 (by omega))
      have HHAS := Lib.hid (has_any HCI.out r k (j : Int) HW.out.1 HW.out.2 HJW.out)
      cases hv : V r k (j : Int) with
      | none =>
        rw [hv] at HHAS
        have HE : Hid (castK V r k (j + 1) = castK V r k j) := Lib.hid (castK_none hv)
        clear hv
        gi_wp2_with (first
          | (refine ⟨trivial, rfl, ?_⟩; gi_at_call 52; refine (callsIn_wide.2 HHAS.out).mono ?_; rintro e w1 ⟨rfl, hb1⟩; have HB1 := Lib.hid hb1; clear hb1 HHAS)
          | (refine ⟨trivial, ?_⟩))
        refine ⟨(fun f h => by cases h), ?_⟩
        gi_wp2
        refine ⟨⟨j + 1, hlt, by rfl, ?_, Nat.le_trans HSZ.out HB1.out.size⟩, ?_⟩
        · rw [HE.out]
          exact HJ.out _ _ _ HJ'.out (HB1.out.mono HSZ.out)
        · simp only [intOf]
          omega
      | some x =>
        rw [hv] at HHAS
        have HV := Lib.hid hv
        have HE : Hid (castK V r k (j + 1) = castK V r k j ++ [(j, x)]) := Lib.hid (castK_some hv)
        have HPF : Hid ((castK V r k j ++ [(j, x)]) <+: castK V r k NN) := Lib.hid (by rw [← HE.out]; exact castK_le V r k hlt)
        clear hv
        gi_wp2_with (first
          | (refine ⟨trivial, rfl, ?_⟩; gi_at_call 52; refine (callsIn_wide.2 HHAS.out).mono ?_; rintro e w1 ⟨rfl, hb1⟩; have HB1 := Lib.hid hb1; replace cb1 := (hb1.cell (p := ⟨b1, 0, none⟩) HLT.out.1).trans cb1; replace cb2 := (hb1.cell (p := ⟨b2, 0, none⟩) HLT.out.2.1).trans cb2; replace cb3 := (hb1.cell (p := ⟨b3, 0, none⟩) HLT.out.2.2).trans cb3; clear hb1 HHAS)
          | (refine ⟨trivial, rfl, ?_⟩; gi_at_call 30; refine (callsIn_wide.2 (get_any (HCI.out.below HB1.out) r k (j : Int) HW.out.1 HW.out.2 HJW.out)).mono ?_; rw [HV.out]; rintro e w2 ⟨rfl, hb2⟩; have HB2 := Lib.hid (HB1.out.trans (hb2.mono HB1.out.size)); clear hb2; obtain ⟨fn, tm, assign, bd, hy, hR1⟩ := HY.out (castK V r k j) (j, x) w2 HPF.out (HJ.out _ _ _ HJ'.out (HB2.out.mono HSZ.out)); dsimp only [encV] at hy)
          | (refine ⟨rfl, ?_⟩; refine hR1.mono ?_; clear hR1; rintro e W' (⟨rfl, hJ2, hk2⟩ | ⟨rfl, hJx2, _⟩)))
        · refine ⟨⟨j + 1, hlt, by rfl, ?_, Nat.le_trans (Nat.le_trans HSZ.out HB2.out.size) hk2.1.size⟩, ?_⟩
          · rw [HE.out]
            exact hJ2
          · simp only [intOf]
            omega
        · refine bodyPost_ret (results_none rfl _ _ _) rfl ?_
          exact ⟨⟨_, rfl⟩, .inr ⟨_, HPF.out, by simp, hJx2⟩⟩
    · obtain rfl : j = NN := by omega
      gi_wp2
      go_end0
      exact ⟨⟨_, rfl⟩, .inl HJ'.out⟩
end Go.Proofs.Ytbgojlcciealiaa
