/-
  One's way to agreement: what is due is done, till nothing is. No condition.
-/
import Derived.Test.YtbgojlcciealiaaRndNext
import Derived.Deep.LoopGhost
namespace Go.Proofs.Ytbgojlcciealiaa
open Go Go.RowKit Go.Maps

theorem castA_len (s : RdS) (k : Int) (id : List UInt8) : (castA s k id).length ≤ 1 := by
  unfold castA
  split <;> simp
theorem beginA_len (s : RdS) (m : Int) : (beginA s m).length ≤ 1 := by
  unfold beginA
  repeat' split
  all_goals first | exact timerA_len _ _ _ | simp
theorem betterA_len (s : RdS) (id : List UInt8) : (betterA s id).length ≤ 1 := by
  unfold betterA
  split
  · exact castA_len _ _ _
  · simp
theorem next_len (s : RdS) : (((nextS s).map (·.2)).getD []).length ≤ 1 := by
  unfold nextS
  repeat' split
  all_goals first | exact castA_len _ _ _ | exact beginA_len _ _ | exact betterA_len _ _ | simp
theorem waitA_len (s : RdS) : (waitA s).length ≤ 2 := by
  unfold waitA wA1 wA2
  rw [List.length_append]
  have h1 := timerA_len s s.round.toNat 1
  have h2 := timerA_len (wS1 s) (wS1 s).round.toNat 2
  repeat' split
  all_goals first | omega | (simp; omega) | simp
/-- What may change below b. -/
structure ChgO (b : Nat) (W W' : World) (B M : Nat) (kv : Value) : Prop where
  os : W'.os = W.os
  tape : W'.tape = W.tape
  output : W'.output = W.output
  size : W.heap.size ≤ W'.heap.size
  block : ∀ k, k < b → k ≠ B → k ≠ M → some k ≠ kv.ownBlock → W'.heap[k]? = W.heap[k]?
theorem ChgO.refl (b : Nat) (W : World) (B M : Nat) (kv : Value) : ChgO b W W B M kv := ⟨rfl, rfl, rfl, Nat.le_refl _, fun _ _ _ _ _ => rfl⟩
theorem ChgO.trans {b : Nat} {W W1 W2 : World} {B M : Nat} {kv : Value} (h : ChgO b W W1 B M kv) (k : ChgO b W1 W2 B M kv) : ChgO b W W2 B M kv :=
  ⟨k.os.trans h.os, k.tape.trans h.tape, k.output.trans h.output, Nat.le_trans h.size k.size, fun j hj h1 h2 h3 => (k.block j hj h1 h2 h3).trans (h.block j hj h1 h2 h3)⟩
theorem Chg.o {b : Nat} {W W' : World} {B M : Nat} {kv kv' : Value} (h : Chg W W' B M kv kv') (hb : b ≤ W.heap.size) : ChgO b W W' B M kv := ⟨h.os, h.tape, h.output, h.size, fun k hk => h.block k (by omega)⟩
theorem ChgO.ofGrown {b : Nat} {W W' : World} {B M : Nat} {kv : Value} {o : Option Nat} (h : W.grownBy W' o) (hb : b ≤ W.heap.size) (ho : ∀ g, o = some g → b ≤ g) : ChgO b W W' B M kv := ⟨h.os, h.tape, h.output, h.size, fun k hk _ _ _ => h.block k (by omega) fun e => by have := ho k e.symm; omega⟩
theorem ChgO.chg {W W' : World} {B M : Nat} {kv : Value} (h : ChgO W.heap.size W W' B M kv) : Chg W W' B M kv kv := ⟨h.os, h.tape, h.output, h.size, h.block, .inl rfl⟩
/-- On the way: so much is done, and so much may come. -/
def SetR (W : World) (b B C M n : Nat) (kv : Value) (s0 : RdS) (l0 : List ActS) (gk : Nat) (v : Value) (wr : World) : Prop :=
  ∃ (s' : RdS) (q : Nat) (l : List ActS), mu s' < q ∧ mu s' = gk ∧ q ≤ 200 ∧ RoundAt wr B C M (n + (200 - q)) kv s' ∧ OwnA b wr v (l0 ++ l) ∧ l.length ≤ 200 - q ∧ settleF 200 s0 = ((settleF q s').1, l ++ (settleF q s').2) ∧ ChgO b W wr B M kv
theorem early_roundR {s : RdS} (h : RdOk s) (hs : s.step ≠ 3) : 0 ≤ s.round := by
  have h1 := h.round
  have h2 := h.early
  have : s.round ≠ -1 := fun e => hs (h2 e)
  omega
set_option maxRecDepth 100000 in
set_option maxHeartbeats 8000000 in
theorem settle_any {W : World} {B C M n : Nat} {kv : Value} {s : RdS} (h : RoundAt W B C M n kv s) (b : Nat) (hb : b ≤ W.heap.size) (hl : LowR b B C M kv) (v : Value) (l0 : List ActS) (ho : OwnA b W v l0) (hlen : l0.length ≤ 1000) (hn : n + 200 < maxLen) : Calls Try.prog 60 #[.pointer (some ⟨B, 0, none⟩), v] W fun e w' => (∃ v', e = .returned v' ∧ OwnA b w' v' (l0 ++ settleA s)) ∧ RoundAt w' B C M (n + 200) kv (settleS s) ∧ ChgO b W w' B M kv := by
  have HL := Lib.hid hl
  have HBW := Lib.hid hb
  have HLEN := Lib.hid hlen
  have HN := Lib.hid hn
  have HBEG : Hid (SetR W b B C M n kv s l0 (mu s) v W) := Lib.hid ⟨s, 200, [], mu_lt h.ok, rfl, Nat.le_refl _, by simpa using h, by simpa using ho, by simp, by simp, ChgO.refl _ _ _ _ _⟩
  clear h ho hl hb hlen hn
  go_enter Try.func60, Try.ntmps60
  go_upto_region 1 with fail
  go_loopg [1] (mu s) (fun gk v1 wr => SetR W b B C M n kv s l0 gk v1 wr)
  case atStart => exact HBEG.out
  case round =>
    obtain ⟨s', q, l, hmq, hmk, hq, hR, hO, hll, hse, hD⟩ := hrel
    have HSE := Lib.hid hse
    have HQ := Lib.hid (And.intro hmq (And.intro hmk hq))
    have HLL := Lib.hid hll
    clear hse hmq hmk hq hll HBEG
    have c4 : wr.cell? ⟨B, 4, none⟩ = some (.int .i64 s'.step) := hR.cell (i := 4) (by omega)
    by_cases hs : s'.step = 3
    · rw [hs] at c4
      have HS3 := Lib.hid hs
      clear hs
      go_wp2_with fail
      go_ret
      have hq := settleF_over q HS3.out
      have hse := HSE.out
      rw [hq] at hse
      simp only [List.append_nil] at hse
      unfold settleA settleS
      rw [hse]
      exact ⟨⟨_, rfl, hO⟩, hR.mono (by omega), hD⟩
    · have hs2 : (s'.step == 3) = false := by rw [beq_eq_false_iff_ne]; exact hs
      have HR0 := Lib.hid (early_roundR hR.ok hs)
      have HS3 := Lib.hid hs
      have HNX := Lib.hid (next_any hR HR0.out (by have := HN.out; omega))
      have HNL := Lib.hid (next_len s')
      cases hnx : nextS s' with
      | none =>
        rw [hnx] at HNX
        have HNE := Lib.hid hnx
        clear hs hnx
        go_wp2_with (first
          | (go_at_call 70; refine HNX.out.mono ?_; rintro e Wn ⟨⟨vn, rfl, hat⟩, hr1, hc1⟩; replace hO := hO.chg hc1 HL.out.B HL.out.M HL.out.kv; replace hD := hD.trans (hc1.o (Nat.le_trans HBW.out hD.size)); replace hR : RoundAt Wn B C M (n + (200 - q) + 1) kv s' := hr1; clear hc1 hat hr1)
          | (go_at_call 71; refine (wait_any hR HR0.out).mono ?_; rintro e Ww ⟨⟨vw, rfl, hat⟩, hr1, hg1⟩; replace hO := hO.grown hg1 HL.out.B; replace hD := hD.trans ((Chg.ofB hg1).o (Nat.le_trans HBW.out hD.size)); replace hR := hr1; clear hg1)
          | (at_builtin; obtain ⟨vq, Wq, hrun, how, hgq, hoq⟩ := app_own (Nat.le_trans HBW.out (hD.size)) hO hat (by have := HLEN.out; have := HLL.out; have := waitA_len s'; simp only [List.length_append]; omega); replace hR := hR.grownO HL.out hgq hoq; replace hD := hD.trans (ChgO.ofGrown hgq (Nat.le_trans HBW.out hD.size) hoq); clear hO; have hO := how; refine wpList_append_run rfl _ _ _ _ rfl _ _ rfl rfl _ _ hrun ?_; clear hrun how hgq hoq hat))
        go_ret
        obtain ⟨q', rfl⟩ : ∃ q', q = q' + 1 := ⟨q - 1, by have := HQ.out; omega⟩
        have hq := settleF_none q' HS3.out HNE.out
        have hse := HSE.out
        rw [hq] at hse
        unfold settleA settleS
        rw [hse]
        exact ⟨⟨_, rfl, by simpa [List.append_assoc] using hO⟩, hR.mono (by have := HQ.out; omega), hD⟩
      | some p =>
        obtain ⟨s2, l2⟩ := p
        rw [hnx] at HNX HNL
        replace HNL : Hid (l2.length ≤ 1) := HNL
        have HNE := Lib.hid hnx
        have HMU := Lib.hid (next_mu hR.ok HR0.out hs hnx)
        clear hs hnx
        go_wp2_with (first
          | (go_at_call 70; refine HNX.out.mono ?_; rintro e Wn ⟨⟨vn, rfl, hat⟩, hr1, hc1⟩; replace hO := hO.chg hc1 HL.out.B HL.out.M HL.out.kv; replace hD := hD.trans (hc1.o (Nat.le_trans HBW.out hD.size)); replace hR : RoundAt Wn B C M (n + (200 - q) + 1) kv s2 := hr1; clear hc1 hr1; replace hat : OwnA wr.heap.size Wn vn l2 := hat)
          | (at_builtin; obtain ⟨vq, Wq, hrun, how, hgq, hoq⟩ := app_own (Nat.le_trans HBW.out (hD.size)) hO hat (by have := HLEN.out; have := HLL.out; have := HNL.out; simp only [List.length_append]; omega); replace hR := hR.grownO HL.out hgq hoq; replace hD := hD.trans (ChgO.ofGrown hgq (Nat.le_trans HBW.out hD.size) hoq); clear hO; have hO := how; refine wpList_append_run rfl _ _ _ _ rfl _ _ rfl rfl _ _ hrun ?_; clear hrun how hgq hoq hat))
        go_roundg (mu s2)
        case measure => have := HMU.out; have := HQ.out; omega
        case rel =>
          obtain ⟨q', rfl⟩ : ∃ q', q = q' + 1 := ⟨q - 1, by have := HQ.out; omega⟩
          have hq := settleF_some q' HS3.out HNE.out
          have hse := HSE.out
          rw [hq] at hse
          have h1 : l2.length ≤ 1 := HNL.out
          refine ⟨s2, q', l ++ l2, by have := HMU.out; have := HQ.out; omega, rfl, by have := HQ.out; omega, hR.mono (by have := HQ.out; omega), by simpa [List.append_assoc] using hO, by have := HLL.out; rw [List.length_append]; have := HQ.out; omega, by simpa [List.append_assoc] using hse, hD⟩
end Go.Proofs.Ytbgojlcciealiaa
