/-
  Several ways to agreement: a mail comes to one of them. No condition.
-/
import Derived.Test.YtbgojlcciealiaaRndTake
import Derived.Test.YtbgojlcciealiaaRndCall2
namespace Go.Proofs.Ytbgojlcciealiaa
open Go Go.RowKit Go.Maps

theorem mailC_id {v : MailS} (h : MailOk v) {i : Nat} (hi : i < 32) : (mailC v)[6 + i]? = some (Extern.Stop.cell (v.act.id.getD i 0)) := by
  have := h.act.id
  unfold IdOk at this
  unfold mailC actC
  rw [Nat.add_comm]
  simp only [List.getElem?_cons_succ]
  rw [List.getElem?_map, List.getElem?_eq_getElem (by omega), List.getD_eq_getElem?_getD, List.getElem?_eq_getElem (by omega)]
  rfl
theorem mail_id {W : World} {g t : Nat} {v : MailS} (h : Blk W g t (mailA v)) (hv : MailOk v) : (Instr.loadAt 24 (.pointer (some ⟨g, 6, none⟩))).run Try.prog W = .ok (idv v.act.id) W :=
  run_load_id W _ _ hv.act.id fun j hj => by
    rw [show (⟨g, 6, none⟩ : Addr).add j = ⟨g, 6 + j, none⟩ by simp [Addr.add], h.cell]
    unfold mailA
    rw [List.getElem?_toArray]
    exact mailC_id hv hj
theorem index_ptrs (g n c i : Nat) (hi : i < n) (w : World) : (Instr.indexAt 79 (.slice (some ⟨g, 0, none⟩) n c) (.int .i64 (i : Int))).run Try.prog w = .ok (.pointer (some ⟨g, i, none⟩)) w := by
  have hk1 : (i : Int) < (n : Int) := by omega
  have hu := Try.underlying79
  simp [Instr.indexAt, run_underlying hu, hi, go_sem]
theorem RoundAt.neMB {W : World} {B C M n g t : Nat} {kv : Value} {s : RdS} {cs : Array Value} (h : RoundAt W B C M n kv s) (hb : Blk W g t cs) : g ≠ M := fun e => by
  obtain ⟨T, ⟨D, ⟨es, c, h2, _⟩, _⟩, _⟩ := h.cnt.votes
  unfold Blk at hb
  rw [e] at hb
  rw [hb] at h2
  cases h2
/-- What one comes to. -/
theorem HallM.did {b : Nat} {W w' : World} {H : Nat} {h : HM} (k : HallM b W H h) (hw : b ≤ W.heap.size) {d : Nat} {x : RB} (hx : h.l[d]? = some x) {e : Ending} {s' : RdS} {acts : List ActS} (hd : Done W w' e x.B x.C x.M x.n x.kv s' acts) :
    ∃ v kv', e = .returned v ∧ OwnA W.heap.size w' v acts ∧ HallM b w' H { h with l := h.l.set d ⟨x.B, x.C, x.M, x.n + 202, kv', s'⟩ } ∧ Below b W w' ∧ ∀ (g t : Nat) (cs : Array Value), Blk W g t cs → t ≠ 132 → t ≠ 24 → Blk w' g t cs := by
  obtain ⟨kv', ⟨v, h1, h2⟩, h3, h4⟩ := hd
  obtain ⟨q1, q2⟩ := k.one hw hx h3 h4
  have hr : RoundAt W x.B x.C x.M x.n x.kv x.s := k.hall.at_ d x hx
  refine ⟨v, kv', h1, h2, q1, q2, fun g t cs hb ht1 ht2 => hb.eqAt (h4.block g hb.lt (blk_ne hb hr.blk ht1) (hr.neMB hb) fun e => ?_)⟩
  obtain ⟨ds, h5, _⟩ := row_at hr.own e.symm
  exact blk_ne hb h5 ht2 rfl
def stepH (H : Nat) (h : HM) (d : Nat) (x : RB) (kv vm : Value) (s : RdS) (acts : List ActS) : HM := { h with vm := vm, l := h.l.set d ⟨x.B, x.C, x.M, x.n + 202, kv, s⟩, ms := acts.foldl (takeM1 H d) h.ms, ds := acts.foldl (takeD1 d) h.ds }
def mailIn (m : MailS) : InS := if m.act.kind = 2 then ⟨3, m.act.round, m.act.num, m.src, 0, m.act.id⟩ else ⟨2, m.act.round, 0, 0, m.act.valid, m.act.id⟩
theorem giveS_voted (s : RdS) (r k q v : Int) (id : List UInt8) : giveS s ⟨3, r, k, q, v, id⟩ = settleS (votS s r k q id) := by
  unfold giveS preS
  simp
theorem giveA_voted (s : RdS) (r k q v : Int) (id : List UInt8) : giveA s ⟨3, r, k, q, v, id⟩ = settleA (votS s r k q id) := by
  unfold giveA preA preS
  simp
theorem giveS_offered (s : RdS) (r k q v : Int) (id : List UInt8) : giveS s ⟨2, r, k, q, v, id⟩ = settleS (offrS s r v id) := by
  unfold giveS preS
  simp
theorem giveA_offered (s : RdS) (r k q v : Int) (id : List UInt8) : giveA s ⟨2, r, k, q, v, id⟩ = settleA (offrS s r v id) := by
  unfold giveA preA preS
  simp
end Go.Proofs.Ytbgojlcciealiaa
