/-
  SlabPlays: what holds at the head of each round: the slab and the reference's, side by side. No condition.
-/
import Derived.Test.YtnkaapghjgnliaaSlabRefC
import Derived.Test.YtnkaapghjgnliaaSlabLawC
namespace Go.Proofs.Ytnkaapghjgnliaa
open Go Go.RowKit Go.Shelf

structure OpR where
  kind : Int
  n : Int
  x : UInt8
  data : List UInt8
/-- A slice of steps. -/
def RdOps (W : World) (ok : Nat → Prop) (A : Option Addr) (ops : List OpR) : Prop :=
  ∀ k, k < ops.length → ∃ (ad : Addr) (o : OpR) (Ad : Option Addr) (cd : Nat), A = some ad ∧ ok ad.block ∧ ops[k]? = some o ∧ W.cell? (ad.add (4 * k)) = some (.int .i64 o.kind) ∧ W.cell? (ad.add (4 * k + 1)) = some (.int .i64 o.n) ∧ W.cell? (ad.add (4 * k + 2)) = some (.int .u8 (o.x.toNat : Int)) ∧
    W.cell? (ad.add (4 * k + 3)) = some (.slice Ad o.data.length cd) ∧ RdB W ok (.slice Ad o.data.length cd) o.data ∧ -9223372036854775808 ≤ o.n ∧ o.n ≤ 9223372036854775807
theorem RdOps.kept {W W' : World} {ok : Nat → Prop} {A : Option Addr} {ops : List OpR} (h : RdOps W ok A ops) (hk : ∀ (a : Addr) (x : Value), ok a.block → W.cell? a = some x → W'.cell? a = some x) : RdOps W' ok A ops := fun k hlt => by
  obtain ⟨ad, o, Ad, cd, h1, h2, h3, c0, c1, c2, c3, hr, h4⟩ := h k hlt
  exact ⟨ad, o, Ad, cd, h1, h2, h3, hk _ _ (by rw [block_add]; exact h2) c0, hk _ _ (by rw [block_add]; exact h2) c1, hk _ _ (by rw [block_add]; exact h2) c2, hk _ _ (by rw [block_add]; exact h2) c3, hr.kept hk, h4⟩
theorem addr_at (ad : Addr) (k j : Nat) (hj : 0 < j) : ad.add (4 * k + j) = ⟨(ad.add (k * 4)).block, (ad.add (k * 4)).off + j, none⟩ := by
  rw [← add_add, Nat.mul_comm]
  generalize ad.add (k * 4) = a
  unfold Addr.add
  rw [if_neg (by omega)]
theorem RdOps.at {W : World} {ok : Nat → Prop} {A : Option Addr} {ops : List OpR} (h : RdOps W ok A ops) {k : Nat} (hlt : k < ops.length) :
    ∃ (ad : Addr) (o : OpR) (Ad : Option Addr) (cd : Nat), A = some ad ∧ W.cell? (ad.add (k * 4)) = some (.int .i64 o.kind) ∧ W.cell? ⟨(ad.add (k * 4)).block, (ad.add (k * 4)).off + 1, none⟩ = some (.int .i64 o.n) ∧ W.cell? ⟨(ad.add (k * 4)).block, (ad.add (k * 4)).off + 2, none⟩ = some (.int .u8 (o.x.toNat : Int)) ∧
      W.cell? ⟨(ad.add (k * 4)).block, (ad.add (k * 4)).off + 3, none⟩ = some (.slice Ad o.data.length cd) ∧ RdB W ok (.slice Ad o.data.length cd) o.data ∧ -9223372036854775808 ≤ o.n ∧ o.n ≤ 9223372036854775807 := by
  obtain ⟨ad, o, Ad, cd, h1, h2, h3, c0, c1, c2, c3, hr, h4⟩ := h k hlt
  rw [Nat.mul_comm] at c0
  rw [addr_at ad k 1 (by omega)] at c1
  rw [addr_at ad k 2 (by omega)] at c2
  rw [addr_at ad k 3 (by omega)] at c3
  exact ⟨ad, o, Ad, cd, h1, c0, c1, c2, c3, hr, h4⟩
/-- The slab s in block g, the reference's t in block v. -/
def PlayRel (w wr : World) (g v : Nat) (s t : SlabS) : Prop :=
  ∃ Z, SlabAt wr Z g s ∧ ¬ Z v ∧ (∀ i, Z i → w.heap.size ≤ i) ∧ Blk wr v 29 #[.int .i64 (t.room : Int), .int .i64 (t.sure : Int), .int .i64 (nrm t.pow), .string ⟨t.bs.toArray⟩] ∧ Below w.heap.size w wr ∧ w.heap.size ≤ v
section
variable {w wr w' : World} {g v : Nat} {s t : SlabS}
theorem PlayRel.ok (h : PlayRel w wr g v s t) : s.Ok := by
  obtain ⟨Z, ⟨_, _, _, _, _, _, hs⟩, _⟩ := h
  exact hs
theorem PlayRel.lt (h : PlayRel w wr g v s t) : v < wr.heap.size ∧ g < wr.heap.size ∧ w.heap.size ≤ wr.heap.size := by
  obtain ⟨Z, ⟨_, hb, _, _, _, _, _⟩, _, _, h4, h5, _⟩ := h
  exact ⟨h4.lt, hb.lt, h5.size⟩
theorem PlayRel.old (h : PlayRel w wr g v s t) : Below w.heap.size w wr := by
  obtain ⟨Z, _, _, _, _, h5, _⟩ := h
  exact h5
theorem PlayRel.below (h : PlayRel w wr g v s t) (hb : Below wr.heap.size wr w') : PlayRel w w' g v s t := by
  obtain ⟨Z, h1, h2, h3, h4, h5, h6⟩ := h
  exact ⟨Z, h1.below hb, h2, h3, h4.below hb h4.lt, h5.trans (hb.mono h5.size), h6⟩
theorem PlayRel.cells (h : PlayRel w wr g v s t) : wr.cell? ⟨v, 0, none⟩ = some (.int .i64 (t.room : Int)) ∧ wr.cell? ⟨v, 1, none⟩ = some (.int .i64 (t.sure : Int)) ∧ wr.cell? ⟨v, 2, none⟩ = some (.int .i64 (nrm t.pow)) ∧ wr.cell? ⟨v, 3, none⟩ = some (.string ⟨t.bs.toArray⟩) ∧
    wr.frozen? ⟨v, 0, none⟩ = false ∧ wr.frozen? ⟨v, 1, none⟩ = false ∧ wr.frozen? ⟨v, 2, none⟩ = false ∧ wr.frozen? ⟨v, 3, none⟩ = false := by
  obtain ⟨Z, h1, h2, h3, h4, h5, h6⟩ := h
  exact cells4 h4
theorem PlayRel.var (h : PlayRel w wr g v s t) (t' : SlabS) : PlayRel w ((((wr.setCell ⟨v, 0, none⟩ (.int .i64 (t'.room : Int))).setCell ⟨v, 1, none⟩ (.int .i64 (t'.sure : Int))).setCell ⟨v, 2, none⟩ (.int .i64 (nrm t'.pow))).setCell ⟨v, 3, none⟩ (.string ⟨t'.bs.toArray⟩)) g v s t' := by
  obtain ⟨Z, h1, h2, h3, h4, h5, h6⟩ := h
  refine ⟨Z, h1.turn (S := fun i => i = v) ?_ (fun i hi e => h2 (e ▸ hi)), h2, h3, var_stored h4 _ _ _ _, var_below h5 h6 _ _ _ _, h6⟩
  exact ((((Turn.refl (fun i => i = v) wr).setCell (p := ⟨v, 0, none⟩) (fun _ => rfl) _).setCell (p := ⟨v, 1, none⟩) (fun _ => rfl) _).setCell (p := ⟨v, 2, none⟩) (fun _ => rfl) _).setCell (p := ⟨v, 3, none⟩) (fun _ => rfl) _
theorem play_left {Z : Nat → Prop} {s' : SlabS} (hl : Left Z g s' wr w') (h1 : ∀ i, Z i → i < wr.heap.size) (h2 : ¬ Z v) (h3 : ∀ i, Z i → w.heap.size ≤ i) (h4 : Blk wr v 29 #[.int .i64 (t.room : Int), .int .i64 (t.sure : Int), .int .i64 (nrm t.pow), .string ⟨t.bs.toArray⟩]) (h5 : Below w.heap.size w wr) (h6 : w.heap.size ≤ v) : PlayRel w w' g v s' t := by
  obtain ⟨Z', q1, q2, q3⟩ := hl
  have hv := h4.lt
  have hs := h5.size
  exact ⟨Z', q1, fun hz => (q3 v hz).elim h2 fun h => by omega, fun i hi => (q3 i hi).elim (h3 i) fun h => by omega, q2.blk h4 h2, h5.trans (q2.below hs fun i hi hz => by have := h3 i hz; omega), h6⟩
theorem play_append {ok : Nat → Prop} {A : Option Addr} {m c : Nat} {cs : List UInt8} {s' : SlabS} {k : Int} (h : PlayRel w wr g v s t) (hr : RdB wr ok (.slice A m c) cs) (hok : ∀ i, ok i → i < w.heap.size) (hm : cs.length = m) (he : s.app cs = (s', k)) :
    Calls Try.prog 12 #[.pointer (some ⟨g, 0, none⟩), .slice A m c] wr fun e w' => e = .returned (.int .i64 k) ∧ PlayRel w w' g v s' t := by
  obtain ⟨Z, h1, h2, h3, h4, h5, h6⟩ := h
  have hlt : ∀ i, Z i → i < wr.heap.size := by obtain ⟨_, _, _, _, _, hlt, _⟩ := h1; exact hlt
  have hs := h5.size
  have := slabAppend_any Z g s ok A m c cs wr h1 hm hr fun i hi => ⟨by have := hok i hi; omega, fun hz => by have := hok i hi; have := h3 i hz; omega⟩
  rw [he] at this
  exact this.mono fun _ _ ⟨e1, e2⟩ => ⟨e1, play_left e2 hlt h2 h3 h4 h5 h6⟩
theorem play_of {f : FuncId} {args : Array Value} {x : Value} {s' : SlabS} (h : PlayRel w wr g v s t) (hc : ∀ Z, SlabAt wr Z g s → Calls Try.prog f args wr fun e w' => e = .returned x ∧ Left Z g s' wr w') : Calls Try.prog f args wr fun e w' => e = .returned x ∧ PlayRel w w' g v s' t := by
  obtain ⟨Z, h1, h2, h3, h4, h5, h6⟩ := h
  have hlt : ∀ i, Z i → i < wr.heap.size := by obtain ⟨_, _, _, _, _, hlt, _⟩ := h1; exact hlt
  exact (hc Z h1).mono fun _ _ ⟨e1, e2⟩ => ⟨e1, play_left e2 hlt h2 h3 h4 h5 h6⟩
theorem play_sync {s' : SlabS} {k : Int} (h : PlayRel w wr g v s t) (he : s.sync = (s', k)) : Calls Try.prog 14 #[.pointer (some ⟨g, 0, none⟩)] wr fun e w' => e = .returned (.int .i64 k) ∧ PlayRel w w' g v s' t :=
  play_of h fun Z hz => by have := slabSync_any Z g s wr hz; rw [he] at this; exact this
theorem play_cut {s' : SlabS} {k n : Int} (h : PlayRel w wr g v s t) (he : s.cut n = (s', k)) : Calls Try.prog 16 #[.pointer (some ⟨g, 0, none⟩), .int .i64 n] wr fun e w' => e = .returned (.int .i64 k) ∧ PlayRel w w' g v s' t :=
  play_of h fun Z hz => by have := slabCut_any Z g s n wr hz; rw [he] at this; exact this
theorem play_spoil {s' : SlabS} {k n : Int} {x : UInt8} (h : PlayRel w wr g v s t) (he : s.spoil n x = (s', k)) : Calls Try.prog 22 #[.pointer (some ⟨g, 0, none⟩), .int .i64 n, .int .u8 (x.toNat : Int)] wr fun e w' => e = .returned (.int .i64 k) ∧ PlayRel w w' g v s' t :=
  play_of h fun Z hz => by have := slabSpoil_any Z g s n x wr hz; rw [he] at this; exact this
theorem play_crash {s' : SlabS} {n : Int} (h : PlayRel w wr g v s t) (he : s.crash n = s') : Calls Try.prog 20 #[.pointer (some ⟨g, 0, none⟩), .int .i64 n] wr fun e w' => e = .returned (.tuple #[]) ∧ PlayRel w w' g v s' t :=
  play_of h fun Z hz => by have := slabCrash_any Z g s n wr hz; rw [he] at this; exact this
theorem play_break {s' : SlabS} {n : Int} (h : PlayRel w wr g v s t) (h1 : -9223372036854775808 ≤ n) (h2 : n ≤ 9223372036854775807) (he : s.brk n = s') : Calls Try.prog 18 #[.pointer (some ⟨g, 0, none⟩), .int .i64 n] wr fun e w' => e = .returned (.tuple #[]) ∧ PlayRel w w' g v s' t :=
  play_of h fun Z hz => by have := slabBreak_any Z g s n h1 h2 wr hz; rw [he] at this; exact this
theorem play_size (h : PlayRel w wr g v s t) : Calls Try.prog 23 #[.pointer (some ⟨g, 0, none⟩)] wr fun e w' => e = .returned (.tuple #[.int .i64 (s.bs.length : Int), .int .i64 (s.sure : Int)]) ∧ PlayRel w w' g v s t := by
  obtain ⟨Z, h1, h2⟩ := id h
  exact (slabSize_any Z g s wr h1).mono fun _ _ ⟨e1, e2⟩ => ⟨e1, h.below e2⟩
theorem play_bytes (h : PlayRel w wr g v s t) : Calls Try.prog 24 #[.pointer (some ⟨g, 0, none⟩)] wr fun e w' => ∃ A n c, e = .returned (.slice A n c) ∧ (convert 32 9 (.slice A n c)).run Try.prog w' = .ok (.string ⟨s.bs.toArray⟩) w' ∧ PlayRel w w' g v s t := by
  have hok := h.ok
  obtain ⟨Z, h1, h2⟩ := id h
  refine (slabBytes_any Z g s wr h1).mono ?_
  rintro e w' ⟨A, c, rfl, ho, hb⟩
  have q1 := hok.fits
  have q2 := hok.room
  exact ⟨A, _, c, rfl, str_rd (own_read ho (by omega)), h.below hb⟩
theorem play_start {w w2 w3 : World} {g R : Nat} (h : SlabAt w2 (fun i => i = g) g ⟨R, [], 0, -1⟩) (h2 : Below w.heap.size w w2) (hg : w.heap.size ≤ g) (hb : Below w2.heap.size w2 w3) :
    PlayRel w (w3.alloc (.cells #[.int .i64 (R : Int), .int .i64 0, .int .i64 (-1), .string ⟨#[]⟩] 29)) g w3.heap.size ⟨R, [], 0, -1⟩ ⟨R, [], 0, -1⟩ := by
  have h3 := h.below hb
  have hlt : g < w3.heap.size := by obtain ⟨_, hb, _⟩ := h3; exact hb.lt
  have hold := h2.trans (hb.mono h2.size)
  exact ⟨fun i => i = g, h3.below ((Below.refl _ _).alloc (Nat.le_refl _) _), by omega, fun i hi => by omega, Blk.newAt _ _ rfl rfl, hold.alloc hold.size _, hold.size⟩
theorem ok_app (hs : s.Ok) (cs : List UInt8) : (s.app cs).1.Ok := by
  unfold SlabS.app
  have hp := decP_in hs.lo hs.hi
  have h1 := hs.sure
  have h2 := hs.fits
  split
  · exact hs
  · split
    · exact hs
    · exact ⟨by show (s.bs ++ cs).length ≤ s.room; rw [List.length_append]; omega, hs.room, by show s.sure ≤ (s.bs ++ cs).length; rw [List.length_append]; omega, hp.1, hp.2⟩
end
/-- What the switch leaves. -/
def PlayCut (w wx : World) (g v : Nat) (e c : Value) : Prop := ∃ (kk : Int) (s' : SlabS), e = .int .i64 kk ∧ c = .int .i64 kk ∧ PlayRel w wx g v s' s'
end Go.Proofs.Ytnkaapghjgnliaa
