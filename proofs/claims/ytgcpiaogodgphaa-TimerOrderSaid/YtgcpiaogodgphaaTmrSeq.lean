/-
  Timers: those that are over, gone through in order. No condition.
-/
import Derived.Test.YtgcpiaogodgphaaTmrTick
import Derived.Test.YtgcpiaogodgphaaSeqN
import Derived.OwnWalkIn
import Derived.LoopIn
import Derived.LoopNIn
import Derived.TacticsInMore
import Derived.RegionIn
namespace Go.Proofs.Ytgcpiaogodgphaa
open Go Go.RowKit

def encT (x : List Int) : Array Value := #[.int .i64 (x.getD 0 0), .int .i64 (x.getD 1 0)]
/-- Neither the row's blocks nor its cell are among these. -/
def FarT (c2 : Nat) (v : Value) (o : Nat → Prop) : Prop := ¬ o c2 ∧ ∀ A m q, v = .slice (some A) m q → ¬ o A.block
theorem RdK.keep {k : Nat} {W W' : World} {B : Nat} {v : Value} {l : List (List Int)} {o : Nat → Prop} (h : RdK k W B v l) (hk : Keep o W W') (hn : ∀ A m q, v = .slice (some A) m q → ¬ o A.block) : RdK k W' B v l := by
  obtain ⟨h0, A, c, h1, h2, h3, h4⟩ := h
  refine ⟨h0, A, c, h1, h2, h3, fun hl => ?_⟩
  obtain ⟨ad, q1, q2, q3⟩ := h4 hl
  refine ⟨ad, q1, q2, fun j x hj i hi => ?_⟩
  have h5 := q3 j x hj i hi
  rw [ic_some (h0 x (List.mem_of_getElem? hj)) hi] at h5 ⊢
  exact cell_keep hk (by rw [block_add]; exact hn ad _ _ (by rw [h1, q1])) h5
theorem wpListIn_load_runT {F : Fence} {n : Nat} {P : Program} {ops : Array Oper} {rest : List Oper} {o : Oper} {a : Act} {w : World} {Q : Exit → Act → World → Prop} (hgd : o.guard = none) (ty : TypeId) (x : Operand) (ho : o.op = .load ty x) (p v : Value) (hx : a.eval x = p) (hl : (Instr.loadAt ty p).run P w = .ok v w)
    (h : wpListIn F n P ops Q rest (a.put o.dst v) w) : wpListIn F n P ops Q (o :: rest) a w := by
  refine wpListIn_plain hgd fun K' hK' => ?_
  unfold Oper.wpIn
  refine ⟨by simp [Oper.about, ho], ?_⟩
  rw [Oper.semAt_plain F _ _ (by rw [ho]; intro c hc'; cases hc')]
  simp [execOp, ho, hx, hl, Result.andThen]
  exact hK' _ _ h
structure ItR (W0 wr : World) (c2 : Nat) (v : Value) (L : List (List Int)) (B : Nat) (o : Nat → Prop) : Prop where
  cell : Blk wr c2 53 #[v]
  row : RdK 3 wr B v L
  far : FarT c2 v o
  size : W0.heap.size ≤ wr.heap.size ∧ B ≤ W0.heap.size ∧ c2 < W0.heap.size
theorem ItR.kept {W0 wr w' : World} {c2 : Nat} {v : Value} {L : List (List Int)} {B : Nat} {o : Nat → Prop} (h : ItR W0 wr c2 v L B o) (hb : Below wr.heap.size wr w') : ItR W0 w' c2 v L B o :=
  ⟨h.cell.below hb h.cell.lt, h.row.old (hb.mono (Nat.le_trans h.size.2.1 h.size.1)), h.far, by have := hb.size; have := h.size; omega⟩
theorem ItR.round {W0 wr w' : World} {c2 : Nat} {v : Value} {L : List (List Int)} {B : Nat} {o o' : Nat → Prop} (h : ItR W0 wr c2 v L B o) (hk : Keep o wr w') (hg : Goes o o' wr) (hL : ∀ A m q, v = .slice (some A) m q → A.block < B) : ItR W0 w' c2 v L B o' :=
  ⟨h.cell.kept hk h.far.1, h.row.keep hk h.far.2, ⟨fun hc => by
      rcases hg _ hc with h1 | h1
      · exact h.far.1 h1
      · have := h.size; omega, fun A m q hv hc => by
      rcases hg _ hc with h1 | h1
      · exact h.far.2 A m q hv h1
      · have := hL A m q hv; have := h.size; omega⟩, by have := hk.size; have := h.size; omega⟩
set_option maxRecDepth 100000 in
set_option maxHeartbeats 4000000 in
theorem tick2_seq (c2 : Nat) (v : Value) (L : List (List Int)) (w : World) (hc : Blk w c2 53 #[v]) (hr : RdK 3 w w.heap.size v L) (hv : ∀ A m q, v = .slice (some A) m q → A.block < w.heap.size) :
    SeqN Try.prog 21 #[.pointer (some ⟨c2, 0, none⟩)] (fun x _ _ vs => vs = encT x) (fun _ => False) (FarT c2 v) L w := by
  intro y J Jx o W hW hJ hJx hY h0 hPre
  obtain ⟨B, hB⟩ : ∃ B, w.heap.size = B := ⟨_, rfl⟩
  rw [hB] at hr hv
  obtain ⟨n, hn⟩ : ∃ n, L.length = n := ⟨_, rfl⟩
  have hL3 := hr.1
  have hn6 : n ≤ 1000000 := by obtain ⟨_, _, _, _, _, h, _⟩ := hr; omega
  obtain ⟨A0, q0, hv0⟩ : ∃ A0 q0, v = .slice A0 n q0 := by
    obtain ⟨_, A0, q0, h, _⟩ := hr
    exact ⟨A0, q0, by rw [h, hn]⟩
  have H0 : Hid (∃ o', J (L.take 0) o' W ∧ ItR W W c2 v L B o') := Lib.hid ⟨o, h0, hc.below hW hc.lt, hr.old (by rw [← hB]; exact hW), hPre, by have := hW.size; have := hc.lt; omega⟩
  have cv : W.cell? ⟨c2, 0, none⟩ = some v := by rw [(hc.below hW hc.lt).cell]; rfl
  have HJ := Lib.hid hJ
  have HY := Lib.hid hY
  have HN := Lib.hid hn
  have HL3 := Lib.hid hL3
  have HV := Lib.hid hv
  clear hW hJ hJx hY h0 hPre hc hr hv hB hn hL3
  subst hv0
  refine callsIn_of_wp Try.func21 rfl trivial ?_ rfl
  simp only [Try.ntmps21, List.size_toArray, List.length_cons, List.length_nil, Nat.reduceAdd, Nat.reduceSub, Array.replicate_succ, Array.replicate_zero, List.push_toArray, List.append_toArray, List.nil_append, List.cons_append]
  gi_wp2
  gi_loopw [7] (fun i wr => ∃ j : Nat, j ≤ n ∧ i = .int .i64 (j : Int) ∧ ∃ o', J (L.take j) o' wr ∧ ItR W wr c2 (.slice A0 n q0) L B o') (fun i _ => n - (intOf i).toNat)
  case atStart => exact ⟨0, Nat.zero_le _, rfl, H0.out⟩
  case round =>
    obtain ⟨j, hj, rfl, o', hJ', hI⟩ := hrel
    have HJ' := Lib.hid hJ'
    have HI := Lib.hid hI
    clear hJ' hI
    by_cases hlt : j < n
    · have hjn : (j : Int) < (n : Int) := by omega
      have hj0 : (0 : Int) ≤ (j : Int) := by omega
      obtain ⟨x, hx⟩ : ∃ x, L[j]? = some x := ⟨_, List.getElem?_eq_getElem (by rw [HN.out]; exact hlt)⟩
      obtain ⟨r, s, t, rfl⟩ := three (HL3.out x (List.mem_of_getElem? hx))
      obtain ⟨ad, c', he, _, _, hcell⟩ := HI.out.row.here hx
      rw [HN.out] at he
      obtain ⟨rfl, -, rfl⟩ := Value.slice.inj he
      have hld : (Instr.loadAt 25 (.pointer (some (ad.add (j * 3))))).run Try.prog wr = .ok (.agg (icA [r, s, t])) wr := run_load_ic wr 25 _ Try.underlying25 rfl _ [r, s, t] alarm_info fun i hi => hcell wr (Below.refl _ _) i (by simpa using hi)
      have HLD := Lib.hid hld
      have HE : Hid (L.take (j + 1) = L.take j ++ [[r, s, t]]) := Lib.hid (by rw [List.take_add_one, hx]; rfl)
      have HPF : Hid ((L.take j ++ [[r, s, t]]) <+: L) := Lib.hid (by rw [← HE.out]; exact List.take_prefix _ _)
      have hba : Below wr.heap.size wr (wr.alloc (.cells #[.int .i64 r, .int .i64 s, .int .i64 t] 25)) := (Below.refl _ _).alloc (Nat.le_refl _) _
      have ca0 : (wr.alloc (.cells #[.int .i64 r, .int .i64 s, .int .i64 t] 25)).cell? ⟨wr.heap.size, 0, none⟩ = some (.int .i64 r) := by rw [(Blk.new wr 25 #[.int .i64 r, .int .i64 s, .int .i64 t]).cell]; rfl
      have ca1 : (wr.alloc (.cells #[.int .i64 r, .int .i64 s, .int .i64 t] 25)).cell? ⟨wr.heap.size, 1, none⟩ = some (.int .i64 s) := by rw [(Blk.new wr 25 #[.int .i64 r, .int .i64 s, .int .i64 t]).cell]; rfl
      obtain ⟨fn, tm, assign, bd, hy, hR1⟩ := HY.out (L.take j) [r, s, t] _ o' (wr.alloc (.cells #[.int .i64 r, .int .i64 s, .int .i64 t] 25)) HPF.out (HJ.out.stay _ _ _ _ HJ'.out (StayN.of_below hba)) (Nat.le_trans HI.out.size.1 hba.size) rfl
      have HIA := Lib.hid (HI.out.kept hba)
      simp only [encT, List.getD_cons_zero, List.getD_cons_succ] at hy hR1
      clear hx hcell he hld hba
      gi_wp2_with (first
        | (guard_target = wpListIn _ _ _ _ _ (Oper.mk _ (.load 25 _) _ _ _ _ :: _) _ _; refine wpListIn_load_runT rfl 25 _ rfl (.pointer (some (ad.add (j * 3)))) (.agg #[.int .i64 r, .int .i64 s, .int .i64 t]) rfl (HLD.out) ?_)
        | (refine ⟨rfl, ?_⟩; refine hR1.mono ?_; clear hR1; rintro e W' (⟨rfl, ⟨o2, hJ2, hg2⟩, hk2⟩ | ⟨rfl, o2, hJx2⟩)))
      · refine ⟨⟨j + 1, hlt, by rfl, o2, by rw [HE.out]; exact hJ2, HIA.out.round hk2 hg2 HV.out⟩, ?_⟩
        simp only [intOf]
        omega
      · refine bodyPost_ret (results_none rfl _ _ _) rfl ?_
        exact ⟨⟨_, rfl⟩, .inr ⟨_, o2, HPF.out, by simp, hJx2⟩⟩
    · obtain rfl : j = n := by omega
      have htk : L.take j = L := List.take_of_length_le (Nat.le_of_eq HN.out)
      have HTK := Lib.hid htk
      clear htk
      have hjn : ¬ (j : Int) < (j : Int) := by omega
      gi_wp2
      go_end0
      exact ⟨⟨_, rfl⟩, .inl ⟨o', by rw [← HTK.out]; exact HJ'.out⟩⟩
end Go.Proofs.Ytgcpiaogodgphaa
