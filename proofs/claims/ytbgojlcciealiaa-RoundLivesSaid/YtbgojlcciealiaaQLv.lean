/-
  Several ways to agreement where all know one thing: those that are made while the row of what they are done with lies there; rows of mails of which one is taken out; rows of whole numbers. No condition.
  Several ways to agreement where all know one thing: in memory, while they begin, and while mails come. No condition.
-/
import Derived.Test.YtbgojlcciealiaaQLiv
import Derived.Test.YtbgojlcciealiaaRndAgK
import Derived.Test.YtbgojlcciealiaaRndOpen
namespace Go.Proofs.Ytbgojlcciealiaa
open Go Go.RowKit Go.Maps

/-- On the way to the beginning, with the row of what they are done with. -/
structure OpenL (b : Nat) (W : World) (N Hb Db : Nat) (va : Value) (ps : List Value) (l : List RB) : Prop where
  hall : HallAt b W l
  blk : Blk W Hb 82 (arr 4 (haF va (.slice none 0 0) (.slice (some ⟨Db, 0, none⟩) N N) N))
  own : W.ownsRow b 62 1 va ps.length ps
  done : Blk W Db 24 (arr (32 * N) (dsF (List.replicate N zeroId)))
  outH : Out l Hb
  outD : Out l Db
  outA : ∀ g, va.ownBlock = some g → Out l g
  low : b ≤ Hb ∧ b ≤ Db
theorem OpenL.new {b : Nat} {W W' : World} {N Hb Db : Nat} {va : Value} {ps : List Value} {l : List RB} (k : OpenL b W N Hb Db va ps l) (hw : b ≤ W.heap.size) (hb : Below W.heap.size W W') {B C M n : Nat} {s : RdS} (hr : RoundAt W' B C M n (.slice none 0 0) s) (h1 : W.heap.size ≤ B) (h2 : W.heap.size ≤ C) (h3 : W.heap.size ≤ M) :
    OpenL b W' N Hb Db va ps (l ++ [⟨B, C, M, n, .slice none 0 0, s⟩]) := by
  have hno : ∀ g, g < W.heap.size → ¬ (RB.mk B C M n (.slice none 0 0) s).has g := fun g hg hh => by
    rcases hh with e | e | e | e
    · have e' : g = B := e
      omega
    · have e' : g = C := e
      omega
    · have e' : g = M := e
      omega
    · cases e
  exact ⟨k.hall.add hb hw hr h1 h2 h3, k.blk.below hb k.blk.lt, rowV_kept k.own hb, k.done.below hb k.done.lt, out_add k.outH (hno _ k.blk.lt), out_add k.outD (hno _ k.done.lt), fun g hg => out_add (k.outA g hg) (hno _ (k.own.lt g hg).2), k.low⟩
theorem OpenL.know {b : Nat} {W w' : World} {N Hb Db : Nat} {va : Value} {ps : List Value} {l : List RB} (k : OpenL b W N Hb Db va ps l) (hw : b ≤ W.heap.size) {d : Nat} {x : RB} (hx : l[d]? = some x) {e : Ending} {id : List UInt8} {acts : List ActS} (hd : Done W w' e x.B x.C x.M x.n x.kv (settleS (remS x.s id)) acts) :
    ∃ v kv', e = .returned v ∧ OpenL b w' N Hb Db va ps (l.set d ⟨x.B, x.C, x.M, x.n + 202, kv', settleS (remS x.s id)⟩) ∧ Below b W w' := by
  obtain ⟨kv', ⟨v, h1, _⟩, h3, h4⟩ := hd
  obtain ⟨q1, q2, q3⟩ := k.hall.chg hw hx h3 h4
  refine ⟨v, kv', h1, ⟨q1, k.blk.eqAt (q2.block _ k.blk.lt k.outH), row_eq k.own fun g hg => q2.block g (k.own.lt g hg).2 (k.outA g hg), k.done.eqAt (q2.block _ k.done.lt k.outD), q3 _ k.blk.lt k.outH, q3 _ k.done.lt k.outD, fun g hg => q3 g (k.own.lt g hg).2 (k.outA g hg), k.low⟩, q2.os, q2.tape, q2.output, q2.size, fun g hg => q2.block g (by omega) fun j y hy hh => ?_⟩
  have := k.hall.low j y hy g hh
  omega
/-- A pointer more. -/
theorem OpenL.push {b : Nat} {W W5 W6 : World} {N Hb Db : Nat} {va v5 : Value} {ps : List Value} {p : Value} {l : List RB} (k : OpenL b W N Hb Db va ps l) (hw : b ≤ W.heap.size) (hg5 : W.grownBy W5 va.ownBlock) (how5 : W5.ownsRow b 62 1 v5 (ps.length + 1) (ps ++ [p])) (hor : v5.ownBlock = va.ownBlock ∨ ∃ g, v5.ownBlock = some g ∧ W.heap.size ≤ g)
    (hb6 : Blk W6 Hb 82 (arr 4 (haF v5 (.slice none 0 0) (.slice (some ⟨Db, 0, none⟩) N N) N))) (hg6 : W5.grownBy W6 (some Hb)) : OpenL b W6 N Hb Db v5 (ps ++ [p]) l ∧ Below b W W6 := by
  have hne : ∀ {g t : Nat} {cs : Array Value}, Blk W g t cs → t ≠ 62 → some g ≠ va.ownBlock := fun {g t cs} hb ht e => by
    obtain ⟨ds, h1, _⟩ := row_at k.own e.symm
    exact blk_ne hb h1 ht rfl
  have hneH : some Hb ≠ va.ownBlock := hne k.blk (by decide)
  have hkeep : ∀ g, g < W.heap.size → some g ≠ va.ownBlock → g ≠ Hb → W6.heap[g]? = W.heap[g]? := fun g hlt h1 h2 => (hg6.block g (Nat.lt_of_lt_of_le hlt hg5.size) fun e => h2 (Option.some.inj e)).trans (hg5.block g hlt h1)
  have hv5H : v5.ownBlock ≠ some Hb := by
    rcases hor with e | ⟨g, e, hg⟩
    · rw [e]
      exact hneH.symm
    · rw [e]
      intro e2
      have := k.blk.lt
      have := Option.some.inj e2
      omega
  refine ⟨⟨k.hall.keep fun i x hx g hg => hkeep g ((k.hall.at_ i x hx).lt hg) (fun e => k.outA g e.symm i x hx hg) (fun e => k.outH i x hx (e ▸ hg)), hb6, ?_, k.done.eqAt (hkeep _ k.done.lt (hne k.done (by decide)) (blk_ne k.done k.blk (by decide))), k.outH, k.outD, fun g hg => ?_, k.low⟩, hg6.os.trans hg5.os, hg6.tape.trans hg5.tape, hg6.output.trans hg5.output, Nat.le_trans hg5.size hg6.size, fun g hg => hkeep g (by omega) (fun e => ?_) (fun e => ?_)⟩
  · rw [List.length_append, List.length_singleton]
    exact row_eq how5 fun g hg => hg6.block g (how5.lt g hg).2 fun e => hv5H (hg.trans (e ▸ rfl))
  · rcases hor with e | ⟨g', e, hg'⟩
    · exact k.outA g (e ▸ hg)
    · rw [e] at hg
      have := Option.some.inj hg
      exact k.hall.lt (by omega)
  · obtain ⟨_, _, h2⟩ := row_at k.own e.symm
    omega
  · have := k.low.1
    omega
/-- All are made. -/
theorem OpenL.hallM {b : Nat} {W : World} {N Hb Db : Nat} {Ab cap : Nat} {l : List RB} (k : OpenL b W N Hb Db (.slice (some ⟨Ab, 0, none⟩) N cap) (ptrsOf l) l) (hl : l.length = N) : HallM b W N ⟨Hb, Ab, Db, cap, .slice none 0 0, l, [], List.replicate N zeroId⟩ := by
  obtain ⟨cs, a1, a2⟩ := row_at k.own (g := Ab) rfl
  refine ⟨k.hall, hl, k.blk, ⟨cs, a1, fun i x hx => ?_⟩, World.ownsRow_nil _ _ _ _, fun m hm => (by cases hm), by show (0 : Nat) ≤ 2000; omega, k.done, by show (List.replicate N zeroId).length = N; simp, fun x hx => by rw [(List.mem_replicate.1 hx).2]; exact zeroId_ok, k.outH, k.outA Ab rfl, k.outD, fun g hg => (by cases hg), k.low.1, a2, k.low.2⟩
  have h2 : (ptrsOf l)[i]? = some (.pointer (some ⟨x.B, 0, none⟩)) := by unfold ptrsOf; rw [List.getElem?_map, hx]; rfl
  have h3 := k.own.cells (g := Ab) rfl i _ h2
  rw [show (⟨Ab, 0, none⟩ : Addr).add i = ⟨Ab, i, none⟩ by unfold Addr.add; split <;> simp_all, a1.cell] at h3
  exact h3
/-! A mail is taken out of a row. -/
def cutM (A : Option Addr) (cap k : Nat) : Option Addr := if cap = k then A else A.map (·.add (k * 38))
theorem run_sliceM_from (A : Option Addr) (len cap t : Nat) (ht : t ≤ len) (w : World) : (Instr.sliceAt 80 (.slice A len cap) (some (.int .i64 (t : Int))) none none).run Try.prog w = .ok (.slice (cutM A cap t) (len - t) (cap - t)) w := by
  simp [Instr.sliceAt, Instr.slice, run_underlying Try.underlying80, Instr.sliceBounds, Instr.sliceBound, asIntOf, Sem.run_bind, cutM, ht]
theorem run_sliceM_to (A : Option Addr) (len cap t : Nat) (ht : t ≤ cap) (w : World) : (Instr.sliceAt 80 (.slice A len cap) none (some (.int .i64 (t : Int))) none).run Try.prog w = .ok (.slice A t cap) w := by
  simp [Instr.sliceAt, Instr.slice, run_underlying Try.underlying80, Instr.sliceBounds, Instr.sliceBound, asIntOf, Sem.run_bind, ht]
  intro _
  cases A with
  | none => rfl
  | some a =>
    show some (a.add 0) = some a
    unfold Addr.add
    split <;> simp_all
theorem yields_sliceM {P : Program} {ops : Array Oper} {S : World → Prop} {op : Oper} {a : Act} (hw : Region.wanted op (yielded ops a.tmps) = true) (t : TypeId) (x : Operand) (lo hi : Option Operand) (ho : op.op = .slice t x lo hi none) (vx : Value) (hx : a.eval x = vx) (vlo vhi : Option Value) (hlo : lo.map a.eval = vlo) (hhi : hi.map a.eval = vhi) (v : Value)
    (hS : ∀ w, (Instr.sliceAt t vx vlo vhi none).run P w = .ok v w) : YieldsIf P ops S op v a :=
  .inl ⟨hw, fun w _ => by
    have hl := hS w
    subst hlo hhi
    unfold execOp
    simp only [ho, hx, Option.map_none, Sem.run_bind, hl, Sem.run_pure, Result.andThen_ok]⟩
theorem RdMl.dropped {W : World} {B : Nat} {A : Option Addr} {n c : Nat} {l : List MailS} (h : RdMl W B (.slice A n c) l) {t : Nat} (ht : t ≤ n) : RdMl W B (.slice (cutM A c t) (n - t) (c - t)) (l.drop t) := by
  obtain ⟨h0, A', c', hv, h2, h3, h4⟩ := h
  obtain ⟨rfl, rfl, rfl⟩ := Value.slice.inj hv
  refine ⟨fun x hx => h0 x (List.mem_of_mem_drop hx), cutM A c t, c - t, by rw [List.length_drop], by rw [List.length_drop]; omega, by rw [List.length_drop]; omega, fun hl => ?_⟩
  rw [List.length_drop] at hl
  obtain ⟨ad, rfl, q2, q3⟩ := h4 (by omega)
  refine ⟨ad.add (t * 38), by unfold cutM; rw [if_neg (by omega)]; rfl, by rw [block_add]; exact q2, fun k x hk i hi => ?_⟩
  rw [List.getElem?_drop] at hk
  rw [add_add', show t * 38 + (38 * k + i) = 38 * (t + k) + i by omega]
  exact q3 _ x hk i hi
theorem mails_shift {b : Nat} {w : World} (hB : b ≤ w.heap.size) {g n cap at1 : Nat} {ms : List MailS} (hok : ∀ x ∈ ms, MailOk x) (hn : ms.length = n) (hm : n ≤ 2000) (ha : at1 < n) (hown : w.ownsRow b 85 38 (.slice (some ⟨g, 0, none⟩) n cap) n (mailsC ms)) :
    ∃ v' w', (Builtin.append_ #[80, 80] 80 #[.slice (some ⟨g, 0, none⟩) at1 cap, .slice (cutM (some ⟨g, 0, none⟩) cap (at1 + 1)) (n - (at1 + 1)) (cap - (at1 + 1))]).run Try.prog w = .ok v' w' ∧
      w'.ownsRow b 85 38 v' (ms.take at1 ++ ms.drop (at1 + 1)).length (mailsC (ms.take at1 ++ ms.drop (at1 + 1))) ∧ w.grownBy w' (some g) ∧ (v'.ownBlock = some g ∨ v'.ownBlock = some w.heap.size) := by
  have hlt : (ms.take at1).length = at1 := by rw [List.length_take]; omega
  have hld : (ms.drop (at1 + 1)).length = n - (at1 + 1) := by rw [List.length_drop]; omega
  have hokt : ∀ x ∈ ms.take at1, MailOk x := fun x hx => hok x (List.mem_of_mem_take hx)
  have hct : (mailsC (ms.take at1)).length = at1 * 38 := by rw [mailsC_length hokt, hlt]
  have how : w.ownsRow b 85 38 (.slice (some ⟨g, 0, none⟩) at1 cap) at1 (mailsC (ms.take at1)) := by
    rcases hown.2 with ⟨h0, _⟩ | ⟨g', cap', cur, hv, hb, hg, hnc, hcm, hcs, htake⟩
    · cases h0
    · obtain ⟨e1, -, e3⟩ := Value.slice.inj hv
      have e1' : g = g' := by
        have := Option.some.inj e1
        injection this
      subst e1' e3
      refine ⟨hct, .inr ⟨g, cap, cur, rfl, hb, hg, by omega, hcm, hcs, ?_⟩⟩
      have h1 : cur.toList.take (at1 * 38) = (cur.toList.take (n * 38)).take (at1 * 38) := by
        rw [List.take_take, Nat.min_eq_left (by omega)]
      rw [h1, htake]
      have h2 : mailsC ms = mailsC (ms.take at1) ++ mailsC (ms.drop at1) := by rw [← mailsC_append, List.take_append_drop]
      rw [h2]
      exact List.take_left' hct
  have hr := (rdMl_own hown hok hn (by omega)).dropped (t := at1 + 1) (by omega)
  obtain ⟨v', w', h1, h2, h3, h4⟩ := app_mails hB how hr (by omega)
  refine ⟨v', w', h1, ?_, h3, h4⟩
  rw [mailsC_append, List.length_append, hlt, hld]
  exact h2
/-- Another row of mails. -/
theorem HallM.swap {b : Nat} {W W5 W6 : World} {H : Nat} {h : HM} (k : HallM b W H h) {v5 : Value} {ms : List MailS} (hm : ∀ m ∈ ms, MailOk m) (hlt : ms.length ≤ 2000) (hg5 : W.grownBy W5 h.vm.ownBlock)
    (how5 : W5.ownsRow b 85 38 v5 ms.length (mailsC ms)) (hor : v5.ownBlock = h.vm.ownBlock ∨ ∃ g, v5.ownBlock = some g ∧ W.heap.size ≤ g)
    (hb6 : Blk W6 h.Hb 82 (arr 4 (haF (h.va H) v5 (h.vd H) H))) (hg6 : W5.grownBy W6 (some h.Hb)) (hw : b ≤ W.heap.size) : HallM b W6 H { h with vm := v5, ms := ms } ∧ Below b W W6 := by
  have hne : ∀ {g t : Nat} {cs : Array Value}, Blk W g t cs → t ≠ 85 → some g ≠ h.vm.ownBlock := fun {g t cs} hb ht e => by
    obtain ⟨ds, h1, _⟩ := row_at k.own e.symm
    exact blk_ne hb h1 ht rfl
  have hkeep : ∀ g, g < W.heap.size → some g ≠ h.vm.ownBlock → g ≠ h.Hb → W6.heap[g]? = W.heap[g]? := fun g hlt h1 h2 => (hg6.block g (Nat.lt_of_lt_of_le hlt hg5.size) fun e => h2 (Option.some.inj e)).trans (hg5.block g hlt h1)
  obtain ⟨cs, a1, a2⟩ := k.all
  have hHA : h.Ab ≠ h.Hb := blk_ne a1 k.blk (by decide)
  have hHD : h.Db ≠ h.Hb := blk_ne k.done k.blk (by decide)
  have hv5H : v5.ownBlock ≠ some h.Hb := by
    rcases hor with e | ⟨g, e, hg⟩
    · rw [e]
      exact (hne k.blk (by decide)).symm
    · rw [e]
      intro e2
      have := k.blk.lt
      have := Option.some.inj e2
      omega
  refine ⟨⟨k.hall.keep fun i x hx g hg => hkeep g ((k.hall.at_ i x hx).lt hg) (fun e => k.outM g e.symm i x hx hg) (fun e => k.outH i x hx (e ▸ hg)), k.len, hb6, ⟨cs, a1.eqAt (hkeep _ a1.lt (hne a1 (by decide)) hHA), a2⟩, row_eq how5 fun g hg => hg6.block g (how5.lt g hg).2 fun e => hv5H (hg.trans (e ▸ rfl)), hm, hlt, k.done.eqAt (hkeep _ k.done.lt (hne k.done (by decide)) hHD), k.dlen, k.dok, k.outH, k.outA, k.outD, fun g hg => ?_, k.low⟩, ?_⟩
  · rcases hor with e | ⟨g', e, hg'⟩
    · exact k.outM g (e ▸ hg)
    · have hg2 : v5.ownBlock = some g := hg
      rw [e] at hg2
      have := Option.some.inj hg2
      exact k.hall.lt (by omega)
  · refine ⟨hg6.os.trans hg5.os, hg6.tape.trans hg5.tape, hg6.output.trans hg5.output, Nat.le_trans hg5.size hg6.size, fun g hg => hkeep g (by omega) (fun e => ?_) (fun e => ?_)⟩
    · obtain ⟨_, _, h2⟩ := row_at k.own e.symm
      omega
    · have := k.low.1
      omega
/-! Rows of whole numbers. -/
def RdQ (W : World) (v : Value) (l : List Int) : Prop :=
  ∃ A c, v = .slice A l.length c ∧ l.length ≤ maxLen ∧ (∀ x ∈ l, wfi x) ∧ (0 < l.length → ∃ ad : Addr, A = some ad ∧ ad.block < W.heap.size ∧ ∀ j n, l[j]? = some n → W.cell? (ad.add j) = some (.int .i64 n))
theorem RdQ.here {W : World} {v : Value} {l : List Int} (h : RdQ W v l) {j : Nat} {n : Int} (hj : l[j]? = some n) : ∃ ad c, v = .slice (some ad) l.length c ∧ wfi n ∧ ∀ W', Below W.heap.size W W' → W'.cell? (ad.add j) = some (.int .i64 n) := by
  have hlt := (List.getElem?_eq_some_iff.1 hj).1
  obtain ⟨A, c, rfl, h2, h9, h3⟩ := h
  obtain ⟨ad, rfl, q2, q3⟩ := h3 (by omega)
  exact ⟨ad, c, rfl, h9 n (List.mem_of_getElem? hj), fun W' hb => (hb.cell (p := ad.add j) (by rw [block_add]; exact q2)).trans (q3 j n hj)⟩
/-! What goes on while mails come. -/
theorem byte_next (i : Nat) (hi : i < 7) : (i : Int) + 1 = ((UInt8.ofNat (i + 1)).toNat : Int) := by
  have : i = 0 ∨ i = 1 ∨ i = 2 ∨ i = 3 ∨ i = 4 ∨ i = 5 ∨ i = 6 := by omega
  rcases this with rfl | rfl | rfl | rfl | rfl | rfl | rfl <;> rfl
def kidN (i : Nat) : List UInt8 := kidB (UInt8.ofNat (i + 1))
theorem kidN_ok (i : Nat) : IdOk (kidN i) := kidB_ok _
theorem built_next (i : Nat) (hi : i < 7) : Try.prog.built 24 [(0, .int .u8 ((i : Int) + 1))] = some (idC (kidN i)) := by
  rw [byte_next i hi]
  exact kidB_built _
theorem kidN_ne (i : Nat) (hi : i < 7) : kidN i ≠ zeroId ∧ kidN i ≠ nilId := by
  have : i = 0 ∨ i = 1 ∨ i = 2 ∨ i = 3 ∨ i = 4 ∨ i = 5 ∨ i = 6 := by omega
  rcases this with rfl | rfl | rfl | rfl | rfl | rfl | rfl <;> exact ⟨by decide, by decide⟩
theorem frs_le (st : Nat → RdS) : ∀ n, frs n st ≤ 2 * n := by
  intro n
  induction n with
  | zero => exact Nat.le_refl _
  | succ n ih =>
    show frs n st + fr (n : Int) (st n).votes ≤ _
    have : fr (n : Int) (st n).votes ≤ 2 := by
      unfold fr
      split <;> split <;> omega
    omega
end Go.Proofs.Ytbgojlcciealiaa
namespace Go.Proofs.Ytbgojlcciealiaa
open Go Go.RowKit Go.Maps

def stB (l : List RB) (i : Nat) : RdS := match l[i]? with | some x => x.s | none => newS 0 0 0
theorem stB_at {l : List RB} {i : Nat} {x : RB} (h : l[i]? = some x) : stB l i = x.s := by
  unfold stB
  rw [h]
theorem stB_set {l : List RB} {d : Nat} (hd : d < l.length) (y : RB) : stB (l.set d y) = updP (stB l) d y.s := by
  funext k
  unfold updP stB
  rw [List.getElem?_set]
  by_cases e : k = d
  · subst e
    rw [if_pos rfl, if_pos hd, if_pos rfl]
  · rw [if_neg e, if_neg (fun q => e q.symm)]
/-- While they begin: the first k have. -/
structure DwL (w : World) (N p Hb Ab k : Nat) (h : HM) (wr : World) : Prop where
  m : HallM w.heap.size wr N h
  hb : h.Hb = Hb
  ab : h.Ab = Ab
  base : Below w.heap.size w wr
  dawn : Dawn N p (kidN p) (stB h.l) h.ms h.ds k
  bound : h.ms.length + 7 * frs N (stB h.l) ≤ 98 + 7 * k
  few : ∀ (q : Nat) (x : RB), h.l[q]? = some x → x.n ≤ 202 + 202 * k
theorem DwL.start {w wr : World} {N p Hb Db Ab cap : Nat} {l : List RB} (hm : HallM w.heap.size wr N ⟨Hb, Ab, Db, cap, .slice none 0 0, l, [], List.replicate N zeroId⟩) (hl : l.length = N) (hN7 : N ≤ 7) (hb : Below w.heap.size w wr) (he : ∀ (q : Nat) (x : RB), l[q]? = some x → Early N (q : Int) (kidN p) x.s ∧ x.n ≤ 202) :
    DwL w N p Hb Ab 0 ⟨Hb, Ab, Db, cap, .slice none 0 0, l, [], List.replicate N zeroId⟩ wr := by
  have hg : ∀ i, i < N → ∃ x, l[i]? = some x := fun i hi => ⟨_, List.getElem?_eq_getElem (by omega)⟩
  refine ⟨hm, rfl, rfl, hb, ⟨by simp, fun i hi => ?_, fun i hi => by omega, fun i hi => by omega, fun i _ hi => ?_, fun i j hi hj hij c => ?_, fun i j hi => by omega, fun hp => by omega, fun m hm => (by cases hm), fun j hj => (by omega)⟩, ?_, fun q x hx => (he q x hx).2⟩
  · obtain ⟨x, hx⟩ := hg i hi
    rw [stB_at hx]
    exact hm.hall.good hx
  · obtain ⟨x, hx⟩ := hg i hi
    rw [stB_at hx]
    exact (he i x hx).1
  · obtain ⟨x, hx⟩ := hg j hj
    rw [stB_at hx]
    exact (he j x hx).1.votes _ _ _
  · have := frs_le (stB l) N
    show 0 + 7 * frs N (stB l) ≤ _
    omega
theorem DwL.begins {w wr W3 : World} {N p Hb Ab k : Nat} {h : HM} (D : DwL w N p Hb Ab k h wr) (hN : 0 ≤ faults (N : Int)) (hN7 : N ≤ 7) (hp : proposer (N : Int) 5 0 = (p : Int)) (hpN : p < N) (hk : k < N) {x : RB} (hx : h.l[k]? = some x) {kv' vm' : Value}
    (hM3 : HallM w.heap.size W3 N (stepH N h k x kv' vm' (settleS (begS x.s (kidN k))) (begA x.s (kidN k) ++ settleA (begS x.s (kidN k))))) (hb : Below w.heap.size wr W3) :
    DwL w N p Hb Ab (k + 1) (stepH N h k x kv' vm' (settleS (begS x.s (kidN k))) (begA x.s (kidN k) ++ settleA (begS x.s (kidN k)))) W3 := by
  have hd : k < h.l.length := (List.getElem?_eq_some_iff.1 hx).1
  have hs := stB_at hx
  have hbo := D.bound
  obtain ⟨q1, q2⟩ := D.dawn.begins hN (kidN_ne p (by omega)).1 (kidN_ne p (by omega)).2 hp (kidN_ok k) (kidN_ne k (by omega)).1 hk (fun e => by rw [e]) (by omega)
  rw [hs] at q1 q2
  have e : stB (stepH N h k x kv' vm' (settleS (begS x.s (kidN k))) (begA x.s (kidN k) ++ settleA (begS x.s (kidN k)))).l = updP (stB h.l) k (settleS (begS x.s (kidN k))) := stB_set hd _
  refine ⟨hM3, D.hb, D.ab, D.base.trans hb, ?_, ?_, fun q y hy => ?_⟩
  · rw [e]
    exact q1
  · rw [e]
    exact Nat.le_trans q2 (by omega)
  · rcases set_get hy with ⟨_, rfl⟩ | ⟨_, hy⟩
    · have := D.few k x hx
      show x.n + 202 ≤ _
      omega
    · have := D.few q y hy
      omega
/-- While mails come: the n-th. -/
structure PlL (w : World) (N p Hb n : Nat) (h : HM) (wr : World) : Prop where
  m : HallM w.heap.size wr N h
  hb : h.Hb = Hb
  base : Below w.heap.size w wr
  play : Play N p (kidN p) (stB h.l) h.ms h.ds
  bound : n + (h.ms.length + 7 * frs N (stB h.l)) ≤ 150
  few : ∀ (q : Nat) (x : RB), h.l[q]? = some x → x.n ≤ 2000 + 202 * n
theorem DwL.plays {w wr : World} {N p Hb Ab : Nat} {h : HM} (D : DwL w N p Hb Ab N h wr) (hpN : p < N) (hN7 : N ≤ 7) : PlL w N p Hb 0 h wr :=
  ⟨D.m, D.hb, D.base, D.dawn.play hpN, by have := D.bound; omega, fun q x hx => by have := D.few q x hx; omega⟩
theorem PlL.below {w wr wx : World} {N p Hb n : Nat} {h : HM} (D : PlL w N p Hb n h wr) (hb : Below wr.heap.size wr wx) : PlL w N p Hb n h wx :=
  ⟨D.m.below hb, D.hb, D.base.trans (hb.mono D.base.size), D.play, D.bound, D.few⟩
theorem PlL.cell {w wr : World} {N p Hb n : Nat} {h : HM} (D : PlL w N p Hb n h wr) {c : Nat} (hc : c < 4) : wr.cell? ⟨Hb, c, none⟩ = some (haF (h.va N) h.vm (h.vd N) N c) := by
  rw [← D.hb]
  exact D.m.cell hc
theorem split_at {α : Type} {l : List α} {i : Nat} {x : α} (h : l[i]? = some x) : l = l.take i ++ x :: l.drop (i + 1) := by
  obtain ⟨hi, rfl⟩ := List.getElem?_eq_some_iff.1 h
  rw [List.getElem_cons_drop, List.take_append_drop]
/-- The mail that is taken out: whose it is. -/
theorem PlL.whose {w wr : World} {N p Hb n : Nat} {h : HM} (D : PlL w N p Hb n h wr) {i : Nat} {m : MailS} (hm : h.ms[i]? = some m) : ∃ d x, d < N ∧ m.dst = (d : Int) ∧ h.l[d]? = some x ∧ MailOk m := by
  have hmem := List.mem_of_getElem? hm
  obtain ⟨a, d, ha, hd, hne, q⟩ := D.play.mail m hmem
  refine ⟨d, _, hd, ?_, List.getElem?_eq_getElem (by rw [D.m.len]; exact hd), D.m.mok m hmem⟩
  rcases q with ⟨c, _, e, _⟩ | e <;> rw [e]
/-- It came. -/
theorem PlL.comes {w wr W3 : World} {N p Hb n : Nat} {h : HM} (D : PlL w N p Hb n h wr) (hN : 0 ≤ faults (N : Int)) (hN7 : N ≤ 7) (hpN : p < N) {i : Nat} {m : MailS} (hm : h.ms[i]? = some m) {d : Nat} (hdd : m.dst = (d : Int)) {x : RB} (hx : h.l[d]? = some x) {kv' vm5 vm' : Value}
    (hM3 : HallM w.heap.size W3 N (stepH N { h with vm := vm5, ms := h.ms.take i ++ h.ms.drop (i + 1) } d x kv' vm' (giveS x.s (mailIn m)) (giveA x.s (mailIn m)))) (hb : Below w.heap.size w W3) :
    PlL w N p Hb (n + 1) (stepH N { h with vm := vm5, ms := h.ms.take i ++ h.ms.drop (i + 1) } d x kv' vm' (giveS x.s (mailIn m)) (giveA x.s (mailIn m))) W3 := by
  have hd : d < h.l.length := (List.getElem?_eq_some_iff.1 hx).1
  have hs := stB_at hx
  have hsp := split_at hm
  have hp := D.play
  have hbo := D.bound
  have hlen : (h.ms.take i ++ h.ms.drop (i + 1)).length + 1 = h.ms.length := by
    have h1 := congrArg List.length hsp
    rw [List.length_append, List.length_cons] at h1
    rw [List.length_append]
    omega
  have hp2 : Play N p (kidN p) (stB h.l) (h.ms.take i ++ m :: h.ms.drop (i + 1)) h.ds := by
    rw [← hsp]
    exact hp
  obtain ⟨j, hj, hjd, _, _, q1, q2⟩ := hp2.comes hN (kidN_ne p (by omega)).1 (kidN_ne p (by omega)).2 (kidN_ok p) (by omega)
  have hjd' : j = d := by omega
  subst hjd'
  rw [hs] at q1 q2
  have e : stB (stepH N { h with vm := vm5, ms := h.ms.take i ++ h.ms.drop (i + 1) } j x kv' vm' (giveS x.s (mailIn m)) (giveA x.s (mailIn m))).l = updP (stB h.l) j (giveS x.s (mailIn m)) := stB_set hd _
  refine ⟨hM3, D.hb, hb, ?_, ?_, fun q y hy => ?_⟩
  · rw [e]
    exact q1
  · rw [e]
    exact Nat.le_trans (Nat.add_le_add_left q2 _) (by omega)
  · rcases set_get hy with ⟨_, rfl⟩ | ⟨_, hy⟩
    · have := D.few j x hx
      show x.n + 202 ≤ _
      omega
    · have := D.few q y hy
      omega
theorem ptrs_more (l : List RB) (x : RB) : ptrsOf (l ++ [x]) = ptrsOf l ++ [.pointer (some ⟨x.B, 0, none⟩)] := by
  unfold ptrsOf
  rw [List.map_append]
  rfl
theorem early_more {N p i q : Nat} {l : List RB} {y z : RB} (hl : ∀ (q : Nat) (x : RB), l[q]? = some x → Early N (q : Int) (kidN p) x.s ∧ x.n ≤ 202) (hll : l.length = i) (hp : p < 7) (hz : z.s = settleS (remS (newS (N : Int).toNat (i : Int) 5) (kidN p))) (hn : z.n ≤ 202) (hy : (l ++ [z])[q]? = some y) : Early N (q : Int) (kidN p) y.s ∧ y.n ≤ 202 := by
  by_cases hq : q < l.length
  · rw [List.getElem?_append_left hq] at hy
    exact hl q y hy
  · rw [List.getElem?_append_right (by omega)] at hy
    by_cases he : q = l.length
    · rw [he, Nat.sub_self] at hy
      obtain rfl := Option.some.inj hy
      rw [he, hll, hz]
      exact ⟨(early_new (kidN_ne p hp).1).1, hn⟩
    · rw [List.getElem?_eq_none (by simp; omega)] at hy
      cases hy
section
variable {ops : Array Oper} {rest : List Oper} {o : Oper} {a : Act} {w : World} {Q : Exit → Act → World → Prop}
theorem wpList_store_mailL (hgd : o.guard = none) (x y : Operand) (ho : o.op = .store 85 x y) (g : Nat) (v : MailS) (hx : a.eval x = .pointer (some ⟨g, 0, none⟩)) (hy : a.eval y = .agg (mailA v)) (hv : MailOk v)
    (t : TypeId) (old : Array Value) (hg : Blk w g t old) (hold : old.size = 38)
    (h : ∀ w', Blk w' g t (mailA v) → w'.heap.size = w.heap.size → Below g w w' → (∀ b, b ≠ g → w'.heap[b]? = w.heap[b]?) → wpList Try.prog ops Q rest (a.put o.dst undef) w') : wpList Try.prog ops Q (o :: rest) a w :=
  wpList_store_arrW hgd 85 x y ho g (mailA v) hx hy t old hg (by rw [mailA_size hv]; exact mail_info) (by rw [mailA_size hv]; exact hold) (mailA_one v) h
end
theorem int_remQ (q mn : Nat) (hm : 0 < mn) (_hq : (q : Int) < 9223372036854775808) (w : World) : (binOp .rem 3 (.int .i64 (q : Int)) (.int .i64 (mn : Int))).run Try.prog w = .ok (.int .i64 ((q % mn : Nat) : Int)) w := by
  have h0 : ¬ (mn : Int) = 0 := by omega
  have h1 : (q : Int).tmod (mn : Int) = ((q % mn : Nat) : Int) := rfl
  have h2 : q % mn ≤ q := Nat.mod_le _ _
  rw [Go.binOp_rem]
  go_simp
  omega
theorem int_addL (a : Nat) (h : a ≤ 3000) (w : World) : (binOp .add 3 (.int .i64 (a : Int)) (.int .i64 1)).run Try.prog w = .ok (.int .i64 ((a + 1 : Nat) : Int)) w := by
  rw [Go.binOp_add]
  go_simp
  rw [IntWalk.i64_left, IntWalk.wrap64_in _ (by omega)]
theorem yieldsIf_convL {P : Program} {ops : Array Oper} {S : World → Prop} {op : Oper} {a : Act} (hw : Region.wanted op (yielded ops a.tmps) = true) (t u : TypeId) (x : Operand) (ho : op.op = .convert t u x)
    (xv v : Value) (hx : a.eval x = xv) (hS : ∀ w, (convert t u xv).run P w = .ok v w) : YieldsIf P ops S op v a :=
  .inl ⟨hw, fun w _ => by
    have hl := hS w
    unfold execOp
    simp only [ho, hx, Sem.run_bind, hl, Sem.run_pure, Result.andThen_ok]⟩
theorem conv_next (p : Nat) (hp : p < 7) (w : World) : (convert 3 5 (.int .i64 ((p + 1 : Nat) : Int))).run Try.prog w = .ok (.int .u8 ((p : Int) + 1)) w := by
  have h1 : IntKind.u8.wrap ((p + 1 : Nat) : Int) = (p : Int) + 1 := by
    rw [IntKind.wrap_u8']
    omega
  go_simp
  exact h1
theorem PlL.swapped {w W W5 W6 : World} {N p Hb n i : Nat} {h : HM} (D : PlL w N p Hb n h W) {v5 : Value} (hg5 : W.grownBy W5 h.vm.ownBlock) (how5 : W5.ownsRow w.heap.size 85 38 v5 (h.ms.take i ++ h.ms.drop (i + 1)).length (mailsC (h.ms.take i ++ h.ms.drop (i + 1)))) (hor : v5.ownBlock = h.vm.ownBlock ∨ ∃ g, v5.ownBlock = some g ∧ W.heap.size ≤ g)
    (hb6 : Blk W6 Hb 82 (arr 4 (haF (h.va N) v5 (h.vd N) N))) (hg6 : W5.grownBy W6 (some Hb)) : HallM w.heap.size W6 N { h with vm := v5, ms := h.ms.take i ++ h.ms.drop (i + 1) } ∧ Below w.heap.size w W6 := by
  obtain ⟨q1, q2⟩ := D.m.swap (ms := h.ms.take i ++ h.ms.drop (i + 1)) (fun m hm => D.m.mok m (by
    rcases List.mem_append.1 hm with q | q
    · exact List.mem_of_mem_take q
    · exact List.mem_of_mem_drop q)) (by have := D.m.few; rw [List.length_append, List.length_take, List.length_drop]; omega) hg5 how5 hor (by rw [D.hb]; exact hb6) (by rw [D.hb]; exact hg6) D.base.size
  exact ⟨q1, D.base.trans q2⟩
theorem hall_c0 {b : Nat} {W : World} {H Hb Ab cap : Nat} {h : HM} (hM : HallM b W H h) (e1 : h.Hb = Hb) (e2 : h.Ab = Ab) (e3 : h.cap = cap) : W.cell? ⟨Hb, 0, none⟩ = some (.slice (some ⟨Ab, 0, none⟩) H cap) := by
  subst e1 e2 e3
  exact hM.cell (j := 0) (by omega)
theorem hall_ptr {b : Nat} {W : World} {H Ab B d : Nat} {h : HM} {x : RB} (hM : HallM b W H h) (e2 : h.Ab = Ab) (hx : h.l[d]? = some x) (e3 : x.B = B) : W.cell? ⟨Ab, d, none⟩ = some (.pointer (some ⟨B, 0, none⟩)) := by
  subst e2 e3
  obtain ⟨cs, a1, a2⟩ := hM.all
  rw [a1.cell]
  exact a2 d x hx
theorem get_setB {l : List RB} {d : Nat} {x : RB} (hx : l[d]? = some x) (y : RB) : (l.set d y)[d]? = some y := by
  have hd := (List.getElem?_eq_some_iff.1 hx).1
  rw [List.getElem?_set, if_pos rfl, if_pos hd]
theorem load_done {W' : World} {D k j : Nat} {ds : List (List UInt8)} {y : List UInt8} (_hl : ds.length = k) (hok : ∀ x ∈ ds, IdOk x) (hj : j < k) (hy : ds[j]? = some y) (hd : Blk W' D 24 (arr (32 * k) (dsF ds))) : (Instr.loadAt 24 (.pointer (some ⟨D, j * 32, none⟩))).run Try.prog W' = .ok (idv y) W' := by
  have hyo : IdOk y := hok y (List.mem_of_getElem? hy)
  exact run_load_id W' _ _ hyo fun c hc => by
    rw [show (⟨D, j * 32, none⟩ : Addr).add c = ⟨D, j * 32 + c, none⟩ by unfold Addr.add; split <;> simp_all, hd.cell, arr_get, if_pos (by omega)]
    have h9 := idsC_get hok hy hc
    unfold dsF
    rw [List.getD_eq_getElem?_getD, show j * 32 + c = 32 * j + c by omega, h9]
    unfold IdOk at hyo
    unfold idL
    rw [List.getElem?_map, List.getElem?_eq_getElem (by omega), List.getD_eq_getElem?_getD, List.getElem?_eq_getElem (by omega)]
    rfl
theorem neq_same {l : List UInt8} (hl : IdOk l) (w : World) : (binOp .neq 24 (idv l) (idv l)).run Try.prog w = .ok (.bool false) w := by
  have h := neq_idv hl hl w
  rw [show (l == l) = true from beq_self_eq_true l] at h
  exact h
end Go.Proofs.Ytbgojlcciealiaa
