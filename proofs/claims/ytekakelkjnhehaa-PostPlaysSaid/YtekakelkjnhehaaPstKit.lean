/-
  Layer 21: messages on their way, in memory; a post in memory. No condition.
-/
import Derived.Test.YtekakelkjnhehaaRowC
import Derived.Test.YtekakelkjnhehaaPackOps
import Derived.Test.YtekakelkjnhehaaPackCut
import Derived.OwnWalk
import Derived.Lib.Hide
import Derived.WalkMore
import Derived.Deep.CutRange
import Derived.Deep.RegionLaw
namespace Go.Proofs.Ytekakelkjnhehaa
open Go Go.RowKit

theorem Turn.setRow {S : Nat → Prop} {a w : World} (h : Turn S a w) {g : Nat} (hg : g < a.heap.size → S g) (cs : Array Value) : Turn S a (w.setRow g cs) :=
  ⟨h.os, h.tape, h.output, by rw [size_setRow]; exact h.size, fun i hi hn => (setRow_other w g i cs (fun e => hn (e ▸ hg (e ▸ hi)))).trans (h.block i hi hn)⟩
/-- A message on its way. -/
structure MailS where
  fc : Bool
  fn : Int
  tc : Bool
  tn : Int
  bs : List UInt8
def mC (m : MailS) (u : Value) : List Value := [.bool m.fc, .int .i64 m.fn, .bool m.tc, .int .i64 m.tn, u]
def mailV (m : MailS) (u : Value) : Value := .agg #[.bool m.fc, .int .i64 m.fn, .bool m.tc, .int .i64 m.tn, u]
theorem b2 (w : World) (t t' : TypeId) (a b : Array Value) : Below w.heap.size w ((w.alloc (.cells a t)).alloc (.cells b t')) := ((Below.refl _ _).alloc (Nat.le_refl _) _).alloc (by simp) _
theorem elMail : ElC Try.prog 48 24 5 56 := ⟨Try.underlying24, by kernel_rfl, by omega, by omega⟩
theorem mail_info : (Try.prog.info? 48).map (·.size) = some 5 := by kernel_rfl
/-- A slice of messages, in blocks that ok bears. -/
def RdM (W : World) (ok : Nat → Prop) (v : Value) (l : List MailS) : Prop :=
  ∃ p : List (MailS × Value), p.map (·.1) = l ∧ RdC 5 W ok v (p.map fun q => mC q.1 q.2) ∧ ∀ q ∈ p, RdB W ok q.2 q.1.bs
section
variable {W W' : World} {ok ok' : Nat → Prop} {v u : Value} {l l' : List MailS} {m : MailS} {bs : List UInt8}
theorem RdB.shape (h : RdB W ok u bs) : ∃ A c, u = .slice A bs.length c := by
  obtain ⟨A, c, e, _⟩ := h
  exact ⟨A, c, e⟩
theorem RdB.one (h : RdB W ok u bs) : u.oneCell' = true := by
  obtain ⟨A, c, e⟩ := h.shape
  rw [e]
  rfl
theorem RdB.turn {S : Nat → Prop} (h : RdB W ok u bs) (ht : Turn S W W') (hs : ∀ b, ok b → ¬ S b) : RdB W' ok u bs := ht.rd h hs
theorem RdM.turn {S : Nat → Prop} (h : RdM W ok v l) (ht : Turn S W W') (hs : ∀ b, ok b → ¬ S b) : RdM W' ok v l := by
  obtain ⟨p, h1, h2, h3⟩ := h
  exact ⟨p, h1, h2.turn ht hs, fun q hq => (h3 q hq).turn ht hs⟩
theorem RdM.mono (h : RdM W ok v l) (hB : ∀ b, ok b → ok' b) : RdM W ok' v l := by
  obtain ⟨p, h1, h2, h3⟩ := h
  exact ⟨p, h1, h2.mono hB, fun q hq => (h3 q hq).mono hB⟩
theorem RdM.nil (W : World) (ok : Nat → Prop) (c : Nat) : RdM W ok (.slice none 0 c) [] := ⟨[], rfl, RdC.nil W ok c, fun q hq => by cases hq⟩
theorem RdM.form (h : RdM W ok v l) : ∃ A c, v = .slice A l.length c ∧ l.length ≤ c := by
  obtain ⟨p, rfl, h2, h3⟩ := h
  obtain ⟨A, c, h1, h4⟩ := h2.form
  rw [List.length_map] at h1 h4
  exact ⟨A, c, by rw [List.length_map]; exact h1, by rw [List.length_map]; exact h4⟩
theorem elsM {p : List (MailS × Value)} (h : ∀ q ∈ p, RdB W ok q.2 q.1.bs) : ElsC 5 (p.map fun q => mC q.1 q.2) := fun x hx => by
  obtain ⟨q, hq, rfl⟩ := List.mem_map.1 hx
  refine ⟨rfl, fun u hu => ?_⟩
  simp only [mC, List.mem_cons, List.not_mem_nil, or_false] at hu
  rcases hu with rfl | rfl | rfl | rfl | rfl
  · rfl
  · rfl
  · rfl
  · rfl
  · exact (h q hq).one
theorem RdM.drop {A : Option Addr} {n c : Nat} (h : RdM W ok (.slice A n c) l) {k : Nat} (hk : k ≤ n) : RdM W ok (.slice (cutC A c k 5) (n - k) (c - k)) (l.drop k) := by
  obtain ⟨p, rfl, h2, h3⟩ := h
  exact ⟨p.drop k, by rw [List.map_drop], by rw [List.map_drop]; exact h2.drop hk, fun q hq => h3 q (List.mem_of_mem_drop hq)⟩
theorem RdM.take {A : Option Addr} {n c : Nat} (h : RdM W ok (.slice A n c) l) {k c' : Nat} (hk : k ≤ n) (hc : k ≤ c') : RdM W ok (.slice A k c') (l.take k) := by
  obtain ⟨p, rfl, h2, h3⟩ := h
  exact ⟨p.take k, by rw [List.map_take], by rw [List.map_take]; exact h2.take hk hc, fun q hq => h3 q (List.mem_of_mem_take hq)⟩
/-- One of them. -/
theorem RdM.here (h : RdM W ok v l) {j : Nat} (hj : l[j]? = some m) : ∃ ad c u, v = .slice (some ad) l.length c ∧ ok ad.block ∧ RdB W ok u m.bs ∧ ∀ W' : World, (∀ (a : Addr) (x : Value), ok a.block → W.cell? a = some x → W'.cell? a = some x) → (Instr.loadAt 48 (.pointer (some (ad.add (j * 5))))).run Try.prog W' = .ok (mailV m u) W' := by
  obtain ⟨p, rfl, h2, h3⟩ := h
  rw [List.getElem?_map] at hj
  obtain ⟨q, hq, rfl⟩ := Option.map_eq_some_iff.1 hj
  have hx : (p.map fun q => mC q.1 q.2)[j]? = some (mC q.1 q.2) := by rw [List.getElem?_map, hq]; rfl
  obtain ⟨ad, c, hv, hl, hok, hc⟩ := h2.here hx
  rw [List.length_map] at hv
  refine ⟨ad, c, q.2, by rw [List.length_map]; exact hv, hok, h3 q (List.mem_of_getElem? hq), fun W' hk => ?_⟩
  refine run_load_el W' 48 _ Try.underlying48 rfl _ (mC q.1 q.2) mail_info fun i hi => ?_
  have h5 := hc i hi
  rw [el_some hl hi] at h5 ⊢
  exact hk _ _ (by rw [block_add, block_add]; exact hok) h5
end
theorem wpList_load_runT {P : Program} {ops : Array Oper} {rest : List Oper} {o : Oper} {a : Act} {w : World} {Q : Exit → Act → World → Prop} (hw : Region.wanted o (yielded ops a.tmps) = true) (ty : TypeId) (x : Operand) (ho : o.op = .load ty x) (p v : Value) (hx : a.eval x = p) (hl : (Instr.loadAt ty p).run P w = .ok v w)
    (h : wpList P ops Q rest (a.put o.dst v) w) : wpList P ops Q (o :: rest) a w :=
  wpList_step fun K hK => by
    rw [if_pos hw]
    unfold Oper.wp
    simp [execOp, ho, hx, hl, Result.andThen, Oper.upon]
    exact hK _ _ h
/-- What two slices' appending leaves. -/
theorem appM_full {w : World} {ok ok' : Nat → Prop} {A A' : Option Addr} {n m c : Nat} {l l' : List MailS} (hx : RdM w ok (.slice A n n) l) (hy : RdM w ok' (.slice A' m c) l') (h0 : 0 < m) (hn : n + m ≤ 1000000) (hok : ∀ b, ok b → b < w.heap.size) (hok' : ∀ b, ok' b → b < w.heap.size) :
    ∃ cap w', (Builtin.append_ #[24, 24] 24 #[.slice A n n, .slice A' m c]).run Try.prog w = .ok (.slice (some ⟨w.heap.size, 0, none⟩) (n + m) cap) w' ∧
      RdM w' (fun b => (ok b ∨ ok' b ∨ w.heap.size ≤ b) ∧ b < w'.heap.size) (.slice (some ⟨w.heap.size, 0, none⟩) (n + m) cap) (l ++ l') ∧ Below w.heap.size w w' := by
  obtain ⟨p, rfl, h2, h3⟩ := hx
  obtain ⟨p', rfl, h2', h3'⟩ := hy
  obtain ⟨cap, w', hrun, hown, hb⟩ := app_full elMail h2 h2' h0 hn
  refine ⟨cap, w', hrun, ⟨p ++ p', by rw [List.map_append], ?_, fun q hq => ?_⟩, hb⟩
  · rw [List.map_append]
    have hl : ((p.map fun q => mC q.1 q.2) ++ (p'.map fun q => mC q.1 q.2)).length = n + m := by
      rw [List.length_append, ← (h2.first (P := Try.prog) (by omega)).2, ← (h2'.first (P := Try.prog) (by omega)).2]
    exact (rdC_own hown (h2.1.append h2'.1) hl hn).mono fun b hb => ⟨.inr (.inr hb.1), hb.2.1⟩
  · rcases List.mem_append.1 hq with hq | hq
    · exact ((h3 q hq).kept fun a x ha hx => (hb.cell (p := a) (hok _ ha)).trans hx).mono fun b hb' => ⟨.inl hb', Nat.lt_of_lt_of_le (hok b hb') hb.size⟩
    · exact ((h3' q hq).kept fun a x ha hx => (hb.cell (p := a) (hok' _ ha)).trans hx).mono fun b hb' => ⟨.inr (.inl hb'), Nat.lt_of_lt_of_le (hok' b hb') hb.size⟩
/-- A post in block g; Y: the blocks that bear all that is its. -/
def PostAt (W : World) (Y : Nat → Prop) (g : Nat) (l : List MailS) : Prop :=
  ∃ v, Blk W g 26 #[v] ∧ RdM W (fun b => Y b ∧ b ≠ g) v l ∧ Y g ∧ (∀ i, Y i → i < W.heap.size) ∧ l.length ≤ 600
/-- What a call leaves of it. -/
def PLeft (Y : Nat → Prop) (g : Nat) (l' : List MailS) (w w' : World) : Prop := ∃ Y', PostAt w' Y' g l' ∧ Turn (fun i => i = g) w w' ∧ ∀ i, Y' i → Y i ∨ w.heap.size ≤ i
section
variable {W W' : World} {Y S : Nat → Prop} {g : Nat} {l l' : List MailS}
theorem PostAt.turn (h : PostAt W Y g l) (ht : Turn S W W') (hs : ∀ i, Y i → ¬ S i) : PostAt W' Y g l := by
  obtain ⟨v, h1, h2, h3, h4, h5⟩ := h
  exact ⟨v, ht.blk h1 (hs g h3), h2.turn ht fun b hb => hs b hb.1, h3, fun i hi => Nat.lt_of_lt_of_le (h4 i hi) ht.size, h5⟩
theorem PostAt.lt (h : PostAt W Y g l) : ∀ i, Y i → i < W.heap.size := by
  obtain ⟨v, h1, h2, h3, h4, h5⟩ := h
  exact h4
theorem PostAt.below (h : PostAt W Y g l) (hb : Below W.heap.size W W') : PostAt W' Y g l := h.turn (Turn.of_below hb) fun i hi => by have := h.lt i hi; omega
theorem PostAt.len (h : PostAt W Y g l) : l.length ≤ 600 := by
  obtain ⟨v, h1, h2, h3, h4, h5⟩ := h
  exact h5
theorem PostAt.mem (h : PostAt W Y g l) : Y g := by
  obtain ⟨v, h1, h2, h3, h4, h5⟩ := h
  exact h3
theorem PostAt.put {v0 v : Value} {ok' : Nat → Prop} (hb : Blk W g 26 #[v0]) (hr : RdM W ok' v l') (hok : ∀ b, ok' b → b < W.heap.size ∧ b ≠ g) (hl : l'.length ≤ 600) : PostAt (W.setCell ⟨g, 0, none⟩ v) (fun b => b = g ∨ ok' b) g l' := by
  have ht : Turn (fun i => i = g) W (W.setCell ⟨g, 0, none⟩ v) := Turn.setCell (S := fun i => i = g) (Turn.refl _ W) (fun _ => rfl) v
  refine ⟨v, hb.store 0 v, (hr.turn ht fun b hb => (hok b hb).2).mono fun b hb => ⟨.inr hb, (hok b hb).2⟩, .inl rfl, fun i hi => Nat.lt_of_lt_of_le ?_ ht.size, hl⟩
  rcases hi with rfl | hi
  · exact hb.lt
  · exact (hok i hi).1
theorem post_new (W : World) : PostAt (W.alloc (.cells #[.slice none 0 0] 26)) (fun i => i = W.heap.size) W.heap.size [] :=
  ⟨_, Blk.new _ _ _, RdM.nil _ _ 0, rfl, fun i hi => by rw [hi]; simp, by simp⟩
end
end Go.Proofs.Ytekakelkjnhehaa
