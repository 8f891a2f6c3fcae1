/-
  A row of bytes of the call's own that may bear the run-time's mark behind its last cell (what '[]byte(s)' makes): appends onto it, whether there is room or not; it as a string. No condition of its own.
  How many blocks bytes have; make of bytes. No condition.
  The reference's filled-up string: for every string of at most 2^40 bytes, in whatever memory.
  The filled-up bytes, cut in blocks of 64, are the standard's blocks.
  The reference's sum of a string: the standard's, for every string of at most 2^40 bytes, in whatever memory.
  The reference's Text, For, Leaf and Node: for whatever sums, texts and lists of texts, in whatever memory.
  The reference's Leaf and Node: for whatever text, whatever two sums, in whatever memory.
-/
import Derived.Test.YtgpbpdjamimbfaaDoorRd
import Derived.Test.YtgpbpdjamimbfaaDoorStrT
import Derived.Deep.AppendSrc
import Derived.Deep.MidRow
import Derived.Deep.Upon
import Derived.Lib.SlBuf
import Derived.Deep.DeepAppendWide
import Derived.Test.YtgpbpdjamimbfaaDoorOfT
import Derived.Test.YtgpbpdjamimbfaaDoorRefSha
import Derived.Deep.AppendLies
import Derived.Deep.RegionLaw
namespace Go.Proofs.YtgpbpdjamimbfaaDoor
open Go Go.RowKit

/-- The row's cells lie from 0 on in block g, as many as the capacity says, none frozen; the first n read as bs. -/
def OwnB (w : World) (base : Nat) (v : Value) (bs : List UInt8) : Prop :=
  ∃ g cap, v = .slice (some ⟨g, 0, none⟩) bs.length cap ∧ base ≤ g ∧ g < w.heap.size ∧ bs.length ≤ cap ∧ cap ≤ maxLen ∧ (∀ j, j < cap → (w.cell? ⟨g, j, none⟩).isSome = true ∧ w.frozen? ⟨g, j, none⟩ = false) ∧
    ∀ j, j < bs.length → w.cell? ⟨g, j, none⟩ = some (bv (bs.getD j 0))
theorem OwnB.below {w w' : World} {base : Nat} {v : Value} {bs : List UInt8} (h : OwnB w base v bs) (hb : Below w.heap.size w w') : OwnB w' base v bs := by
  obtain ⟨g, cap, h1, h2, h3, h4, h5, h6, h7⟩ := h
  exact ⟨g, cap, h1, h2, Nat.lt_of_lt_of_le h3 hb.size, h4, h5, fun j hj => ⟨by rw [hb.cell (p := ⟨g, j, none⟩) h3]; exact (h6 j hj).1, by rw [hb.frozen (p := ⟨g, j, none⟩) h3]; exact (h6 j hj).2⟩, fun j hj => by rw [hb.cell (p := ⟨g, j, none⟩) h3]; exact h7 j hj⟩
theorem OwnB.rd {w : World} {base : Nat} {v : Value} {bs : List UInt8} (h : OwnB w base v bs) (hm : bs.length ≤ 140737488351232) : RdB w (fun b => base ≤ b ∧ b < w.heap.size) v bs := by
  obtain ⟨g, cap, rfl, h2, h3, h4, h5, h6, h7⟩ := h
  exact rdB_cells h7 rfl h4 hm ⟨h2, h3⟩

variable {P : Program}
theorem run_append_ownB (w : World) (base : Nat) (t ty e : TypeId) (i : TypeInfo) (z : Value) (ht : P.underlying t = some (.slice e)) (hi : P.info? e = some i) (hz : i.zero = some z)
    (hsize : i.size = 1) (hby : i.bytes = 1) (hzs : z.cells.size = 1) (v : Value) (bs : List UInt8) (hown : OwnB w base v bs)
    (ok : Nat → Prop) (A : Option Addr) (m c : Nat) (cs : List UInt8) (hr : RdB w ok (.slice A m c) cs) (hm : 0 < m) (h63 : bs.length + m ≤ 140737488355328) (hbase : base ≤ w.heap.size) :
    ∃ v' w', (Builtin.append_ #[t, t] ty #[v, .slice A m c]).run P w = .ok v' w' ∧ OwnB w' base v' (bs ++ cs) ∧ Below base w w' ∧ w.heap.size ≤ w'.heap.size := by
  obtain ⟨g, cap, rfl, h2, h3, h4, h5, h6, h7⟩ := hown
  obtain ⟨A', c', hv, r1, r2, r3⟩ := hr
  injection hv with e1 e2 e3
  subst e1; subst e2; subst e3
  obtain ⟨ad, rfl, _, hc⟩ := r3 hm
  have hnews : ∀ (j : Nat) (x : Value), (cs.map bv)[j]? = some x → w.cell? (ad.add j) = some x := fun j x hx => by
    have hj : j < cs.length := by
      by_cases hj : j < cs.length
      · exact hj
      · rw [List.getElem?_eq_none (by simpa using hj)] at hx; cases hx
    rw [List.getElem?_map, List.getElem?_eq_getElem hj] at hx
    cases hx
    rw [hc j hj, List.getD_eq_getElem?_getD, List.getElem?_eq_getElem hj]
    rfl
  have hone : ∀ x ∈ cs.map bv, x.oneCell' = true := fun x hx => by
    simp only [List.mem_map] at hx
    obtain ⟨b, _, rfl⟩ := hx
    rfl
  have hs := Src.ofSlice (P := P) (size := 1) w (tx := t) ht ad cs.length c (cs.map bv) (by simp) hnews hone
  have hget : ∀ (j : Nat) (l : List UInt8), j < l.length → (l.map bv)[j]? = some (bv (l.getD j 0)) := fun j l hj => by
    rw [List.getElem?_map, List.getElem?_eq_getElem hj, List.getD_eq_getElem?_getD, List.getElem?_eq_getElem hj]; rfl
  by_cases hroom : bs.length + cs.length ≤ cap
  · have hrun := run_append_room_src (P := P) w t t ty e i ht hi g 0 bs.length cap (.slice (some ad) cs.length c) cs.length (cs.map bv) (by rw [hsize]; exact hs) hroom
      (fun j hj => by rw [hsize]; simp at hj; simpa using (h6 (bs.length + j) (by omega)).1) (fun j hj => by rw [hsize]; simp at hj; simpa using (h6 (bs.length + j) (by omega)).2)
    rw [hsize] at hrun
    simp only [Nat.zero_add, Nat.mul_one] at hrun
    have hbel : Below base w (w.setCells g bs.length (cs.map bv)) := Go.Lib.below_setCells g h2 _ _ (Below.refl _ _)
    have hsz : w.heap.size ≤ (w.setCells g bs.length (cs.map bv)).heap.size := hbel.size
    refine ⟨_, _, hrun, ⟨g, cap, by rw [List.length_append], h2, by omega, by rw [List.length_append]; exact hroom, h5, fun j hj => ⟨World.isSome_setCells g _ _ _ _ (h6 j hj).1, by rw [World.frozen?_setCells]; exact (h6 j hj).2⟩, fun j hj => ?_⟩, hbel, hsz⟩
    rw [List.length_append] at hj
    by_cases hjl : j < bs.length
    · rw [World.cell?_setCells_out g _ _ _ _ (fun _ _ => .inl hjl), h7 j hjl]
      simp [List.getD_eq_getElem?_getD, List.getElem?_append_left hjl]
    · have := World.cell?_setCells_in g (cs.map bv) bs.length w (fun k hk => (h6 _ (by simp at hk; omega)).1) (j - bs.length) (by simp; omega)
      rw [show bs.length + (j - bs.length) = j from by omega] at this
      rw [this]
      simp [List.getD_eq_getElem?_getD, List.getElem?_append_right (by omega : bs.length ≤ j), List.getElem?_eq_getElem (show j - bs.length < cs.length by omega)]
  · have hold : (Builtin.firstCells i.size bs.length (.slice (some ⟨g, 0, none⟩) bs.length cap)).run P w.drew = .ok (bs.map bv).toArray w.drew := by
      rw [hsize]
      exact run_firstCells_some w.drew 1 bs.length ⟨g, 0, none⟩ bs.length cap (bs.map bv) (by simp) (fun j x hx => by
        have hj : j < bs.length := by
          by_cases hj : j < bs.length
          · exact hj
          · rw [List.getElem?_eq_none (by simpa using hj)] at hx; cases hx
        rw [hget j bs hj] at hx
        cases hx
        rw [add_zero_block]
        exact h7 j hj)
    have hnc : Builtin.nextslicecap (bs.length + cs.length) cap ≤ 281474976710656 := by
      have := nextslicecap_le_wide (need := bs.length + cs.length) (old := cap) (by omega)
      omega
    have hrun := run_append_grow_src (P := P) w t t ty e i z ht hi hz (some ⟨g, 0, none⟩) bs.length cap (bs.map bv) hold (.slice (some ad) cs.length c) cs.length (cs.map bv) (by rw [hsize]; exact hs) (by omega) (by omega) (by rw [hby]; omega)
    have hge := grownCap_ge w (bs.length + cs.length) cap e
    have hle := grownCap_le_maxLen w (bs.length + cs.length) cap e (by unfold maxLen; omega)
    obtain ⟨cap', hcap'⟩ : ∃ cap', grownCap w (bs.length + cs.length) cap e = cap' := ⟨_, rfl⟩
    rw [hcap'] at hrun hge hle
    obtain ⟨C, hC⟩ : ∃ C, (bs.map bv ++ cs.map bv).toArray ++ Builtin.zeroCells z.cells (cap' - (bs.length + cs.length)) = C := ⟨_, rfl⟩
    rw [hC] at hrun
    have hCs : C.size = cap' := by
      rw [← hC]
      simp [size_zeroCells, hzs]
      omega
    have hb : Blk (w.drew.alloc (.cells C e)) w.heap.size e C := Blk.new w.drew e C
    refine ⟨_, _, hrun, ⟨w.heap.size, cap', by rw [List.length_append], hbase, by simp, by rw [List.length_append]; exact hge, hle, fun j hj => ⟨by rw [hb.cell]; simp [hCs, hj], hb.frozen j⟩, fun j hj => ?_⟩, (Below.refl _ _).drew.alloc hbase _, by simp⟩
    rw [hb.cell, ← hC, ← List.map_append]
    rw [Array.getElem?_append_left (by simp; rw [List.length_append] at hj; exact hj)]
    simp only [List.getElem?_toArray]
    exact hget j (bs ++ cs) hj

section
variable {F : Fence} {n : Nat} {P : Program} {ops : Array Oper} {rest : List Oper} {o : Oper} {a : Act} {w : World} {Q : Exit → Act → World → Prop}
theorem wpListIn_append_run (hF : ∀ f, F.fn f) (hgd : o.guard = none) (s x : Operand) (t t' : TypeId) (ho : o.op = .call { callee := .builtin .append, args := #[s, x], argTypes := #[t, t'] })
    (vs vx : Value) (hs : a.eval s = vs) (hx : a.eval x = vx) (v : Value) (w' : World) (hrun : (Builtin.append_ #[t, t'] o.type #[vs, vx]).run P w = .ok v w')
    (h : wpListIn F n P ops Q rest (a.put o.dst v) w') : wpListIn F n P ops Q (o :: rest) a w := by
  refine wpListIn_plain hgd fun K hK => ?_
  unfold Oper.wpIn
  refine ⟨fun f _ => hF f, ?_⟩
  rw [Oper.semAt_plain F _ _ (by rw [ho]; intro c hc; cases hc)]
  simp [execOp, ho, resolve, invoke, builtin, hs, hx, hrun, Result.andThen]
  exact hK _ _ h
theorem wpListIn_append_ownB (hF : ∀ f, F.fn f) (hgd : o.guard = none) (s x : Operand) (t : TypeId) (ho : o.op = .call { callee := .builtin .append, args := #[s, x], argTypes := #[t, t] })
    (base : Nat) (e : TypeId) (i : TypeInfo) (z : Value) (ht : P.underlying t = some (.slice e)) (hi : P.info? e = some i) (hz : i.zero = some z)
    (hsize : i.size = 1) (hby : i.bytes = 1) (hzs : z.cells.size = 1) (v : Value) (bs : List UInt8) (hs : a.eval s = v) (hown : OwnB w base v bs)
    (ok : Nat → Prop) (A : Option Addr) (m c : Nat) (cs : List UInt8) (hx : a.eval x = .slice A m c) (hr : RdB w ok (.slice A m c) cs) (hm : 0 < m) (h63 : bs.length + m ≤ 140737488355328) (hbase : base ≤ w.heap.size)
    (h : ∀ v' w', OwnB w' base v' (bs ++ cs) → Below base w w' → wpListIn F n P ops Q rest (a.put o.dst v') w') : wpListIn F n P ops Q (o :: rest) a w := by
  obtain ⟨v', w', hrun, q1, q2, _⟩ := run_append_ownB (P := P) w base t o.type e i z ht hi hz hsize hby hzs v bs hown ok A m c cs hr hm h63 hbase
  exact wpListIn_append_run hF hgd s x t t ho v _ hs hx v' w' hrun (h v' w' q1 q2)
theorem wpListIn_convert_run (hF : ∀ f, F.fn f) (hgd : o.guard = none) (src dst : TypeId) (x : Operand) (ho : o.op = .convert src dst x) (vx : Value) (hx : a.eval x = vx) (v : Value) (w' : World) (hrun : (convert src dst vx).run P w = .ok v w')
    (h : wpListIn F n P ops Q rest (a.put o.dst v) w') : wpListIn F n P ops Q (o :: rest) a w := by
  refine wpListIn_val hF hgd (by rw [ho]; intro c hc; cases hc) v w' ?_ h
  simp [execOp, ho, hx, hrun, Result.andThen]
end
/-- '[]byte(s)' of the program's. -/
theorem run_bytes_of (L : List UInt8) (hL : L.length ≤ 1099511627776) (w : World) : ∃ v w', (convert 9 42 (.string ⟨L.toArray⟩)).run Tryd.prog w = .ok v w' ∧ OwnB w' w.heap.size v L ∧ Below w.heap.size w w' := by
  have hrun := run_bytes_of_string (P := Tryd.prog) w 9 42 5 ⟨L.toArray⟩ Tryd.underlying9 Tryd.underlying42 Tryd.underlying5
  have hsz : (⟨L.toArray⟩ : ByteArray).size = L.length := by simp [ByteArray.size]
  rw [hsz] at hrun
  have hge := grownCap_ge w L.length 0 5
  have hle := grownCap_le_maxLen w L.length 0 5 (by unfold maxLen; omega)
  obtain ⟨cap, hcap⟩ : ∃ cap, grownCap w L.length 0 5 = cap := ⟨_, rfl⟩
  rw [hcap] at hrun hge hle
  obtain ⟨C, hC⟩ : ∃ C, bytesRow ⟨L.toArray⟩ cap = C := ⟨_, rfl⟩
  rw [hC] at hrun
  have hCs : C.size = cap := by
    rw [← hC]
    simp [bytesRow, ByteArray.size]
    omega
  have hg : (w.drew.alloc (.cells C 5 (C.size, C.size + 1))).heap[w.heap.size]? = some (.cells C 5 (C.size, C.size + 1)) := heap_alloc_new w.drew _
  obtain ⟨w', hw'⟩ : ∃ w', (w.drew.alloc (.cells C 5 (C.size, C.size + 1))) = w' := ⟨_, rfl⟩
  have hszw : w'.heap.size = w.heap.size + 1 := by rw [← hw']; simp
  have hbw : Below w.heap.size w w' := hw' ▸ (Below.refl _ _).drew.alloc (Nat.le_refl _) _
  rw [hw'] at hrun hg
  have hcell : ∀ j, w'.cell? ⟨w.heap.size, j, none⟩ = C[j]? := fun j => by unfold World.cell?; simp only [hg]; simp
  have hfz : ∀ j, j < cap → w'.frozen? ⟨w.heap.size, j, none⟩ = false := fun j hj => by
    unfold World.frozen?
    simp only [hg]
    simp
    omega
  refine ⟨_, w', hrun, ⟨w.heap.size, cap, rfl, Nat.le_refl _, by omega, hge, hle, fun j hj => ⟨by rw [hcell]; simp [hCs, hj], hfz j hj⟩, fun j hj => ?_⟩, hbw⟩
  rw [hcell, ← hC]
  unfold bytesRow
  rw [Array.getElem?_append_left (by simpa using hj)]
  simp [List.getD_eq_getElem?_getD, List.getElem?_eq_getElem hj, bv]
end Go.Proofs.YtgpbpdjamimbfaaDoor
namespace Go.Proofs.YtgpbpdjamimbfaaDoor
open Go Go.RowKit Go.Shelf

theorem allBlocks_length (L : List UInt8) : (allBlocks L).length = (L.length + 9 + 63) / 64 := by
  unfold allBlocks fulls lasts endBlocks
  rw [List.length_append, List.length_map, List.length_range]
  split <;> simp <;> omega

theorem run_make_bytes (n : Nat) (hn : n ≤ 1099511627776) (w : World) : (Instr.makeSlice 42 (.int .i64 (n : Int)) (.int .i64 (n : Int))).run Tryd.prog w = .ok (.slice (some ⟨w.heap.size, 0, none⟩) n n) (w.alloc (.cells (arr n fun _ => bv 0) 5)) := by
  obtain ⟨i0, hi, hz0, hz1, hz2⟩ := info_parts info_u8
  have h := run_make (P := Tryd.prog) w 42 5 i0 (.int .u8 0) Tryd.underlying42 hi hz0 .i64 .i64 n n (by omega) (Int.le_refl _) (by rw [hz2]; omega) (by omega)
  simp only [Int.toNat_natCast] at h
  rw [h]
  have e : madeCells (Value.int .u8 0).cells (n * i0.size) = arr n fun _ => bv 0 := by
    rw [hz1, Nat.mul_one]
    refine arr_of n _ _ (by simp [size_madeCells]) (fun i hi => ?_)
    have := congrArg (fun l : List Value => l[i]?) (toList_madeCells_one (Value.int .u8 0) n)
    simp only [Array.getElem?_toList] at this
    show (madeCells #[Value.int .u8 0] n)[i]? = _
    rw [this]
    simp [hi]
    rfl
  rw [e]
end Go.Proofs.YtgpbpdjamimbfaaDoor
namespace Go.Proofs.YtgpbpdjamimbfaaDoor
open Go Go.RowKit Go.Shelf
attribute [local go_sem] Oper.semAt_some

/-- How many zeros stand between the 128 and the count. -/
def gapZ (n : Nat) : Nat := (119 - n % 64) % 64
theorem gapZ_end (n : Nat) : (n + 1 + gapZ n) % 64 = 56 := by unfold gapZ; omega
theorem gapZ_lt (n k : Nat) (h : k < gapZ n) : (n + 1 + k) % 64 ≠ 56 := by unfold gapZ at h; omega
def cntBytes (c : Nat) : List UInt8 := (List.range 8).map (cntByte c)
def filled (L : List UInt8) : List UInt8 := L ++ [128] ++ List.replicate (gapZ L.length) 0 ++ cntBytes (L.length * 8)

/-- The count's bytes, the last k of them written. -/
def cntTo (c k : Nat) (i : Nat) : UInt8 := if 8 ≤ i + k then cntByte c i else 0
theorem cntTo_set (c k : Nat) (hk : k < 8) : (arr 8 fun i => bv (cntTo c k i)).setIfInBounds (7 - k) (bv (cntByte c (7 - k))) = arr 8 fun i => bv (cntTo c (k + 1) i) := by
  rw [arr_set _ _ _ _ (by omega)]
  refine arr_congr fun i hi => ?_
  unfold cntTo
  by_cases h : i = 7 - k
  · subst h; rw [if_pos rfl, if_pos (by omega)]
  · rw [if_neg h]
    by_cases h2 : 8 ≤ i + k
    · rw [if_pos h2, if_pos (by omega)]
    · rw [if_neg h2, if_neg (by omega)]

theorem rdB_one (W : World) (b : UInt8) : RdB (W.alloc (.cells #[bv b] 5)) (fun _ => True) (.slice (some ⟨W.heap.size, 0, none⟩) 1 1) [b] :=
  rdB_cells (fun i hi => by
    obtain rfl : i = 0 := by omega
    have := (Blk.new W 5 #[bv b]).cell 0
    exact this) rfl (by omega) (by omega) trivial

theorem OwnB.setFar {w : World} {base g n cap : Nat} {bs : List UInt8} (h : OwnB w base (.slice (some ⟨g, 0, none⟩) n cap) bs) (p : Addr) (v : Value) (hp : p.block ≠ g) : OwnB (w.setCell p v) base (.slice (some ⟨g, 0, none⟩) n cap) bs := by
  obtain ⟨g', cap', e, h2, h3, h4, h5, h6, h7⟩ := h
  injection e with e1 e2 e3
  injection e1 with e1
  injection e1 with e1
  subst e1
  have hne : ∀ j, p ≠ (⟨g, j, none⟩ : Addr) := fun j hj => hp (by rw [hj])
  exact ⟨g, cap', by rw [e2, e3], h2, by simpa [World.setCell] using h3, h4, h5, fun j hj => ⟨by rw [World.cell?_setCell_other _ p _ v (hne j)]; exact (h6 j hj).1, by rw [World.frozen?_setCell]; exact (h6 j hj).2⟩, fun j hj => by rw [World.cell?_setCell_other _ p _ v (hne j)]; exact h7 j hj⟩
theorem own_back {w : World} {base : Nat} {v : Value} {l : List UInt8} (h : OwnB w base v l) : (convert 42 9 v).run Tryd.prog w = .ok (.string ⟨l.toArray⟩) w := by
  obtain ⟨g, cap, rfl, h2, h3, h4, h5, h6, h7⟩ := h
  refine run_convert_bytes_back (P := Tryd.prog) w 42 9 5 ⟨g, 0, none⟩ cap l Tryd.underlying42 Tryd.underlying5 Tryd.underlying9 (fun j hj => ?_)
  rw [add_zero_block, h7 j hj]
  simp [bv, List.getD_eq_getElem?_getD, hj]

set_option maxRecDepth 100000 in
set_option maxHeartbeats 1000000 in
theorem filled_any (L : List UInt8) (hL : L.length ≤ 1099511627776) (w : World) :
    CallsIn Fence.wide 0 Tryd.prog 71 #[.string ⟨L.toArray⟩] w fun e w' => e = .returned (.string ⟨(filled L).toArray⟩) ∧ Below w.heap.size w w' := by
  obtain ⟨i0, hi, hz0, hz1, hz2⟩ := info_parts info_u8
  obtain ⟨v1, w1, hcv, hown1, hb1⟩ := run_bytes_of L hL w
  have HI := Lib.hid (And.intro hi (And.intro hz0 (And.intro hz1 hz2)))
  have HO1 := Lib.hid hown1
  have HB1 := Lib.hid hb1
  clear hi hz0 hz1 hz2 hown1 hb1
  refine callsIn_of_wp Tryd.func71 rfl trivial ?_ rfl
  simp only [Tryd.ntmps71, List.size_toArray, List.length_cons, List.length_nil, Nat.reduceAdd, Nat.reduceSub, Array.replicate_succ, Array.replicate_zero, List.push_toArray, List.append_toArray, List.nil_append, List.cons_append]
  gi_wp2_with (first
    | (refine wpListIn_convert_run (fun _ => trivial) rfl 9 42 _ rfl _ rfl v1 w1 hcv ?_)
    | (refine wpListIn_append_ownB (fun _ => trivial) rfl _ _ 42 rfl w.heap.size 5 i0 (.int .u8 0) Tryd.underlying42 HI.out.1 HI.out.2.1 HI.out.2.2.1 HI.out.2.2.2 rfl v1 L rfl (HO1.out.below (Below.refl _ _ |>.alloc (Nat.le_refl _) _)) (fun _ => True) _ _ _ [128] rfl (rdB_one w1 128) (by simp) (by simp; omega) (by have := HB1.out.size; simp; omega) ?_
       intro v2 w2 hown2 hb2))
  have hb02 : Below w.heap.size w w2 := (HB1.out.alloc HB1.out.size _).trans hb2
  clear hb2
  gi_loopw [3] (fun v wr => ∃ k : Nat, k ≤ gapZ L.length ∧ OwnB wr w.heap.size v (L ++ [128] ++ List.replicate k 0) ∧ Below w.heap.size w wr) (fun v _ => L.length + 1 + gapZ L.length - slen v)
  case atStart => exact ⟨0, by omega, by simpa using hown2, hb02⟩
  case round =>
    clear hown2 hb02
    obtain ⟨k, hk, hown, hb⟩ := hrel
    have hown' := hown
    obtain ⟨g, cap, rfl, h2, h3, h4, h5, h6, h7⟩ := hown'
    have hlen : (L ++ [128] ++ List.replicate k (0 : UInt8)).length = L.length + 1 + k := by simp; omega
    rw [hlen] at hown ⊢
    clear h2 h3 h4 h5 h6 h7
    have Hown := Lib.hid hown
    have Hhb := Lib.hid hb
    clear hown hb
    by_cases hlt : k < gapZ L.length
    · have hne : (((L.length : Int) + 1 + (k : Int)) % 64 != 56) = true := by have := gapZ_lt _ _ hlt; rw [bne_iff_ne]; omega
      gi_wp2_with (
        (refine wpListIn_append_ownB (fun _ => trivial) rfl _ _ 42 rfl w.heap.size 5 i0 (.int .u8 0) Tryd.underlying42 HI.out.1 HI.out.2.1 HI.out.2.2.1 HI.out.2.2.2 rfl _ (L ++ [128] ++ List.replicate k 0) rfl (Hown.out.below (Below.refl _ _ |>.alloc (Nat.le_refl _) _)) (fun _ => True) _ _ _ [0] rfl (rdB_one wr 0) (by simp) (by rw [hlen]; simp; unfold gapZ at hlt; omega) (by have := Hhb.out.size; simp; omega) ?_
         intro v3 w3 hown3 hb3))
      go_roundw
      case rel => exact ⟨k + 1, by omega, by rw [List.append_assoc, ← List.replicate_succ'] at hown3; exact hown3, (Hhb.out.alloc Hhb.out.size _).trans hb3⟩
      case measure =>
        obtain ⟨g', cap', rfl, _⟩ := hown3
        rw [List.length_append, hlen]
        simp [slen]
        omega
    · obtain rfl : k = gapZ L.length := by omega
      have hne : (((L.length : Int) + 1 + (gapZ L.length : Int)) % 64 != 56) = false := by have := gapZ_end L.length; rw [Bool.eq_false_iff]; simp; omega
      have hmk : ∀ w', (Instr.makeSlice 42 (.int .i64 8) (.int .i64 8)).run Tryd.prog w' = _ := fun w' => run_make_bytes 8 (by omega) w'
      gi_wp2
      clear hmk hne
      obtain ⟨W3, hW3⟩ : ∃ W3, wr.alloc (Obj.cells (arr 8 fun x => bv 0) 5) = W3 := ⟨_, rfl⟩
      have c0 : Blk W3 wr.heap.size 5 (arr 8 fun i => bv (cntTo (L.length * 8) 0 i)) := by rw [← hW3]; exact (Blk.new wr _ _).same (arr_congr fun i hi => by rw [cntTo, if_neg (by omega)])
      have o0 : OwnB W3 w.heap.size (Value.slice (some ⟨g, 0, none⟩) (L.length + 1 + gapZ L.length) cap) (L ++ [128] ++ List.replicate (gapZ L.length) 0) := by rw [← hW3]; exact Hown.out.below ((Below.refl _ _).alloc (Nat.le_refl _) _)
      have b0 : Below w.heap.size w W3 := by rw [← hW3]; exact Hhb.out.alloc Hhb.out.size _
      have g0 : g < wr.heap.size := by obtain ⟨g', cap', e, h2, h3, _⟩ := Hown.out; injection e with e1 e2 e3; injection e1 with e1; injection e1 with e1; omega
      have Hh := Lib.hid Hhb.out.size
      rw [hW3]
      clear hW3 Hown Hhb
      generalize hG : wr.heap.size = G at *
      clear hG
      gi_loopw [5, 6] (fun a b W => ∃ k : Nat, k ≤ 8 ∧ a = .int .u64 ((L.length * 8 / 2 ^ (8 * k) : Nat) : Int) ∧ b = .int .i64 (7 - (k : Int)) ∧ Blk W G 5 (arr 8 fun i => bv (cntTo (L.length * 8) k i)) ∧ OwnB W w.heap.size (Value.slice (some ⟨g, 0, none⟩) (L.length + 1 + gapZ L.length) cap) (L ++ [128] ++ List.replicate (gapZ L.length) 0) ∧ Below w.heap.size w W) (fun a b _ => (intOf b + 1).toNat)
      case atStart => exact ⟨0, by omega, by simp, by simp, c0, o0, b0⟩
      case round =>
        clear c0 o0 b0
        obtain ⟨k, hk, rfl, rfl, c1, o1, b1⟩ := hrel
        by_cases hlt : k < 8
        · have hc2 := c1.cell (7 - k)
          have hf2 := c1.frozen (7 - k)
          rw [arr_get, if_pos (by omega)] at hc2
          obtain ⟨n, hn⟩ : ∃ n, L.length * 8 / 2 ^ (8 * k) = n := ⟨_, rfl⟩
          have hn2 : L.length * 8 / 2 ^ (8 * (k + 1)) = n / 256 := by rw [← hn, Nat.div_div_eq_div_mul, show 8 * (k + 1) = 8 * k + 8 from by omega, Nat.pow_add]
          have hle : n ≤ L.length * 8 := by rw [← hn]; exact Nat.div_le_self _ _
          have hw : ((n : Int) % 256) = ((cntByte (L.length * 8) (7 - k)).toNat : Int) := by
            unfold cntByte
            rw [show 56 - 8 * (7 - k) = 8 * k from by omega, hn]
            simp
          rw [hn]
          have t1 : ((7 : Int) - (k : Int)).toNat = 7 - k := by omega
          have O1 := Lib.hid o1
          have B1 := Lib.hid b1
          clear o1 b1 hn
          gi_wp2
          go_roundw
          case rel =>
            refine ⟨k + 1, by omega, by rw [hn2]; go_num, by go_num, ?_, O1.out.setFar _ _ (by show G ≠ g; omega), B1.out.setCell (by have := Hh.out; simpa using this) _⟩
            exact (c1.store (7 - k) (bv (cntByte (L.length * 8) (7 - k)))).same (cntTo_set _ k hlt)
          case measure => simp [intOf]; omega
        · obtain rfl : k = 8 := by omega
          have hrb : RdB wr (fun _ => True) (.slice (some ⟨G, 0, none⟩) 8 8) (cntBytes (L.length * 8)) := rdB_blk c1 (fun i hi => by
            unfold cntTo cntBytes
            rw [if_pos (by omega)]
            simp [List.getD_eq_getElem?_getD, hi]) (by simp [cntBytes]) (by omega) (by omega) (by omega) trivial
          have O1 := Lib.hid o1
          have B1 := Lib.hid b1
          clear o1 b1
          gi_wp2_with (first
            | (refine wpListIn_append_ownB (fun _ => trivial) rfl _ _ 42 rfl w.heap.size 5 i0 (.int .u8 0) Tryd.underlying42 HI.out.1 HI.out.2.1 HI.out.2.2.1 HI.out.2.2.2 rfl _ (L ++ [128] ++ List.replicate (gapZ L.length) 0) rfl O1.out (fun _ => True) _ _ _ (cntBytes (L.length * 8)) rfl hrb (by simp) (by rw [hlen]; unfold gapZ; omega) B1.out.size ?_
               intro v5 w5 hown5 hb5; obtain ⟨hcv5⟩ : Nonempty ((convert 42 9 v5).run Tryd.prog w5 = .ok (.string ⟨(filled L).toArray⟩) w5) := ⟨own_back hown5⟩)
            | (refine wpListIn_convert_run (fun _ => trivial) rfl 42 9 _ rfl _ rfl _ _ hcv5 ?_))
          go_ret
          exact ⟨rfl, B1.out.trans hb5⟩
end Go.Proofs.YtgpbpdjamimbfaaDoor
namespace Go.Proofs.YtgpbpdjamimbfaaDoor
open Go Go.RowKit Go.Shelf

theorem filled_length (L : List UInt8) : (filled L).length = 64 * (allBlocks L).length := by
  rw [allBlocks_length]
  unfold filled cntBytes gapZ
  simp only [List.length_append, List.length_cons, List.length_nil, List.length_replicate, List.length_map, List.length_range]
  omega
theorem filled_getD (L : List UInt8) (k : Nat) : (filled L).getD k 0 = if k < L.length then L.getD k 0 else if k = L.length then 128 else if k < L.length + 1 + gapZ L.length then 0 else if k < L.length + 1 + gapZ L.length + 8 then cntByte (L.length * 8) (k - (L.length + 1 + gapZ L.length)) else 0 := by
  unfold filled
  simp only [List.getD_eq_getElem?_getD]
  by_cases h1 : k < L.length
  · rw [if_pos h1, List.getElem?_append_left (by simp; omega), List.getElem?_append_left (by simp; omega), List.getElem?_append_left h1]
  rw [if_neg h1]
  by_cases h2 : k = L.length
  · rw [if_pos h2, List.getElem?_append_left (by simp; omega), List.getElem?_append_left (by simp; omega), List.getElem?_append_right (by omega)]
    subst h2
    simp
  rw [if_neg h2]
  by_cases h3 : k < L.length + 1 + gapZ L.length
  · rw [if_pos h3, List.getElem?_append_left (by simp; omega), List.getElem?_append_right (by simp; omega), List.getElem?_replicate]
    split <;> rfl
  rw [if_neg h3, List.getElem?_append_right (by simp; omega)]
  have e : (L ++ [128] ++ List.replicate (gapZ L.length) (0 : UInt8)).length = L.length + 1 + gapZ L.length := by simp; omega
  rw [e]
  unfold cntBytes
  by_cases h4 : k < L.length + 1 + gapZ L.length + 8
  · rw [if_pos h4, List.getElem?_map, List.getElem?_range (by omega)]
    rfl
  · rw [if_neg h4, List.getElem?_eq_none (by simp; omega)]
    rfl

theorem filled_blk (L : List UInt8) (j i : Nat) (hj : j < (allBlocks L).length) (hi : i < 64) : (filled L).getD (64 * j + i) 0 = ((allBlocks L).getD j (fun _ => 0)) i := by
  have hn := allBlocks_length L
  rw [hn] at hj
  rw [filled_getD]
  obtain ⟨q, hq⟩ : ∃ q, L.length / 64 = q := ⟨_, rfl⟩
  obtain ⟨r, hr⟩ : ∃ r, L.length % 64 = r := ⟨_, rfl⟩
  have hL : L.length = 64 * q + r := by omega
  have hr64 : r < 64 := by omega
  have hg : gapZ L.length = (119 - r) % 64 := by unfold gapZ; rw [hr]
  have hgv : (r < 56 ∧ gapZ L.length = 55 - r) ∨ (56 ≤ r ∧ gapZ L.length = 119 - r) := by rw [hg]; omega
  unfold allBlocks fulls lasts
  have eD : ∀ l : List (Nat → UInt8), l.getD j (fun _ => 0) = l[j]?.getD (fun _ => 0) := fun l => List.getD_eq_getElem?_getD
  rw [hq, hr, eD]
  by_cases h1 : j < q
  · rw [List.getElem?_append_left (by simpa using h1), List.getElem?_map, List.getElem?_range h1, if_pos (by omega)]
    rfl
  rw [List.getElem?_append_right (by simpa using h1)]
  simp only [List.length_map, List.length_range]
  have hfull : ∀ k, fullBlk L q k = L.getD (64 * q + k) 0 := fun k => rfl
  unfold endBlocks
  rcases hgv with ⟨h2, h3⟩ | ⟨h2, h3⟩
  · obtain rfl : j = q := by omega
    rw [if_pos h2, h3]
    simp only [Nat.sub_self, List.getElem?_cons_zero, Option.getD_some]
    unfold tailB headB
    by_cases c1 : i < r
    · rw [if_pos (by omega), if_pos (by omega), if_pos c1, hfull]
    by_cases c2 : i = r
    · rw [if_neg (by omega), if_pos (by omega), if_pos (by omega), if_neg c1, if_pos c2]
    by_cases c3 : i < 56
    · rw [if_neg (by omega), if_neg (by omega), if_pos (by omega), if_pos c3, if_neg c1, if_neg c2]
    · rw [if_neg (by omega), if_neg (by omega), if_neg (by omega), if_pos (by omega), if_neg c3, show 64 * j + i - (L.length + 1 + (55 - r)) = i - 56 from by omega]
  · rw [if_neg (show ¬ r < 56 by omega), h3]
    by_cases hjq : j = q
    · subst hjq
      simp only [Nat.sub_self, List.getElem?_cons_zero, Option.getD_some]
      unfold headB
      by_cases c1 : i < r
      · rw [if_pos (by omega), if_pos c1, hfull]
      by_cases c2 : i = r
      · rw [if_neg (by omega), if_pos (by omega), if_neg c1, if_pos c2]
      · rw [if_neg (by omega), if_neg (by omega), if_pos (by omega), if_neg c1, if_neg c2]
    · obtain rfl : j = q + 1 := by omega
      rw [show q + 1 - q = 1 from by omega]
      simp only [List.getElem?_cons_succ, List.getElem?_cons_zero, Option.getD_some]
      unfold tailB
      by_cases c3 : i < 56
      · rw [if_neg (by omega), if_neg (by omega), if_pos (by omega), if_pos c3]
      · rw [if_neg (by omega), if_neg (by omega), if_neg (by omega), if_pos (by omega), if_neg c3, show 64 * (q + 1) + i - (L.length + 1 + (119 - r)) = i - 56 from by omega]

end Go.Proofs.YtgpbpdjamimbfaaDoor
namespace Go.Proofs.YtgpbpdjamimbfaaDoor
open Go Go.RowKit

/-- What stands between two blocks. -/
def Base (r : Nat) (w wr : World) (gk gh : Nat) (s : Nat → W32) : Prop :=
  Blk wr gk 128 (arr 64 fun i => u6 (kAt i)) ∧ Blk wr gh 128 (arr 8 fun i => u6 (s i)) ∧ Blk wr r 37 (arr 32 fun _ => bv 0) ∧ Below r w wr ∧ r < gk ∧ gk < gh
/-- New blocks, and writes to new blocks alone. -/
theorem Base.grown {r : Nat} {w wr w' : World} {gk gh : Nat} {s : Nat → W32} (h : Base r w wr gk gh s) {row : Option Nat} (hg : wr.grownBy w' row) (hrow : ∀ x, row = some x → wr.heap.size ≤ x) : Base r w w' gk gh s := by
  obtain ⟨h1, h2, h3, h4, h5, h6⟩ := h
  have nb : ∀ b, b < wr.heap.size → some b ≠ row := fun b hb e => by have := hrow b e.symm; omega
  exact ⟨h1.grown hg (nb _ h1.lt), h2.grown hg (nb _ h2.lt), h3.grown hg (nb _ h3.lt), h4.grown hg (Nat.le_trans (Nat.le_of_lt h3.lt) (Nat.le_refl _)) (fun x hx => by have := hrow x hx; have := h3.lt; omega), h5, h6⟩

theorem wRow_0 (b : Nat → UInt8) : (arr 64 fun _ => Value.int .u64 0) = wRow b 0 0 := arr_congr fun i _ => by
  by_cases h : i = 0
  · subst h; simp [part]
  · simp [h]
theorem hRow_0 (s : Nat → W32) (t : St) : (arr 8 fun i => u6 (s i)) = hRow s t 0 := arr_congr fun i _ => by simp
theorem hRow_8 (s : Nat → W32) (t : St) : hRow s t 8 = arr 8 fun i => u6 (ad (s i) (t.get i)) := arr_congr fun i hi => by simp [hi]
theorem info_u64 : (Tryd.prog.info? 128).map (fun i => (i.zero, i.size, i.bytes)) = some (some (.int .u64 0), 1, 8) := by kernel_rfl
theorem run_make_words (w : World) : (Instr.makeSlice 126 (.int .i64 64) (.int .i64 64)).run Tryd.prog w = .ok (.slice (some ⟨w.heap.size, 0, none⟩) 64 64) (w.alloc (.cells (arr 64 fun _ => .int .u64 0) 128)) := by
  obtain ⟨i0, hi, hz0, hz1, hz2⟩ := info_parts info_u64
  have h := run_make (P := Tryd.prog) w 126 128 i0 (.int .u64 0) Tryd.underlying126 hi hz0 .i64 .i64 64 64 (by omega) (Int.le_refl _) (by rw [hz2]; omega) (by omega)
  rw [show Int.toNat 64 = 64 from rfl, hz1] at h
  rw [h]
  have e : madeCells (Value.int .u64 0).cells (64 * 1) = arr 64 fun _ => .int .u64 0 := by kernel_rfl
  rw [e]

def InvB (r gk gh : Nat) (S : ByteArray) (B : List (Nat → UInt8)) (W0 : World) (n : Nat) (f : Nat → Value) (w : World) : Prop :=
  ∃ j, j + n = B.length ∧ Loc f r gk gh S j ∧ Base r W0 w gk gh (shaSt (B.take j))

set_option maxRecDepth 1000000 in
set_option maxHeartbeats 2000000 in
theorem roundB (Q : Exit → Act → World → Prop) (f : Nat → Value) (r gk gh : Nat) (S : ByteArray) (B : List (Nat → UInt8)) (W0 w : World) (hnb : B.length ≤ 17179869190) (hS : S.size = 64 * B.length)
    (hSi : ∀ j i : Nat, j < B.length → i < 64 → ∀ x : Int, x = ((64 * j + i : Nat) : Int) → ∀ w', (Instr.index 9 (.string S) (.int .i64 x)).run Tryd.prog w' = .ok (bv ((B.getD j (fun _ => 0)) i)) w')
    (n j : Nat) (hj : j + n = B.length) (hlt : j < B.length) (h2 : Loc f r gk gh S j) (hB : Base r W0 w gk gh (shaSt (B.take j))) :
    (refLoop 0).wp Tryd.prog (Exit.then (Next 272 (InvB r gk gh S B W0) n) Q) ⟨arr 272 f, []⟩ w := by
  obtain ⟨h2, h3, h4, h5, h6, h7⟩ := h2
  rw [lit272, h2, h3, h4, h5, h6, h7]
  clear h2 h3 h4 h5 h6 h7
  obtain ⟨nb, hn⟩ : ∃ nb, B.length = nb := ⟨_, rfl⟩
  rw [hn] at hnb hS hj hlt
  have HS := Lib.hid hSi
  have HB := Lib.hid hB
  have HN := Lib.hid hn
  have hSz : (S.size : Int) = 64 * (nb : Int) := by omega
  have hlt2 : 64 * (j : Int) < (S.size : Int) := by omega
  have hj0 : (0 : Int) ≤ (j : Int) := by omega
  have hjm : (j : Int) ≤ 17179869190 := by omega
  clear hS hSi hB hn hSz
  conv => arg 2; whnf
  have l2 : decide (64 * (j : Int) < (S.size : Int)) = true := by simpa using hlt2
  have hmk := fun w' => run_make_words w'
  go_wp2
  clear hmk
  obtain ⟨b, hbb⟩ : ∃ b, B.getD j (fun _ => 0) = b := ⟨_, rfl⟩
  have HSj : Hid (∀ i, i < 64 → ∀ x : Int, x = ((64 * j + i : Nat) : Int) → ∀ w', (Instr.index 9 (.string S) (.int .i64 x)).run Tryd.prog w' = .ok (bv (b i)) w') := Lib.hid fun i hi x hx w' => by
    rw [← hbb]; exact HS.out j i (by rw [HN.out]; exact hlt) hi x hx w'
  have HBB := Lib.hid hbb
  clear hbb
  refine loop_at 272 rfl (loopW _ _ r gk gh S j w.heap.size b _ (by omega) HSj.out ⟨⟨rfl, rfl, rfl, rfl, rfl, rfl⟩, rfl, 0, rfl, rfl, Blk.newAt _ _ rfl (wRow_0 b), World.grownBy.refl _ _⟩ ?_)
  rintro f' w1 ⟨⟨h2, h3, h4, h5, h6, h7⟩, h8, k, hk, h9, hBw, hG⟩
  obtain rfl : k = 64 := by omega
  rw [lit272 f', h2, h3, h4, h5, h6, h7, h8, h9]
  clear h2 h3 h4 h5 h6 h7 h8 h9
  have HW1 := Lib.hid hBw
  have HG1 := Lib.hid hG
  clear hBw hG
  have hG1 : w.grownBy w1 (some w.heap.size) := (World.grownBy_alloc w _ _).trans HG1.out
  have hB1 : Base r W0 w1 gk gh (shaSt (B.take j)) := HB.out.grown hG1 (fun x hx => by cases hx; exact Nat.le_refl _)
  have HB1 := Lib.hid hB1
  clear HG1 HB hG1
  obtain ⟨s, hs⟩ : ∃ s, shaSt (B.take j) = s := ⟨_, rfl⟩
  have HSS := Lib.hid hs
  rw [hs] at hB1 HB1
  clear hs
  have hghl := hB1.2.1.lt
  obtain ⟨news, hnews⟩ : ∃ news, (List.range 8).map (fun i => u6 (s i)) = news := ⟨_, rfl⟩
  have hnl : news.length = 8 * 1 := by rw [← hnews]; simp
  have hnc : Hid (∀ (i : Nat) u, news[i]? = some u → (w1.alloc (.cells #[] 128)).cell? ((⟨gh, 0, none⟩ : Addr).add i) = some u) := Lib.hid fun i u hu => by
    have hi : i < 8 := by
      rcases Nat.lt_or_ge i 8 with h | h
      · exact h
      · rw [List.getElem?_eq_none (by omega)] at hu; cases hu
    rw [← hnews, List.getElem?_map, List.getElem?_range hi] at hu
    cases hu
    rw [add_zero_block, (hB1.2.1.alloc _).cell, arr_get, if_pos hi]
  have hn1 : Hid (∀ u ∈ news, u.oneCell' = true) := Lib.hid fun u hu => by
    rw [← hnews] at hu
    simp only [List.mem_map] at hu
    obtain ⟨i, _, rfl⟩ := hu
    rfl
  have HNEWS := Lib.hid hnews
  have HNL := Lib.hid hnl
  clear hnews hnl hB1
  obtain ⟨i0, hi, hz0, hz1, hz2⟩ := info_parts info_u64
  have HI := Lib.hid (And.intro hi (And.intro hz0 (And.intro hz1 hz2)))
  clear hi hz0 hz1 hz2
  go_wp2_with (at_builtin; refine wpList_append_lies _ rfl (.tmp 109) (.tmp 110) 126 rfl w1.heap.size 128 i0 (.int .u64 0) 1 8 Tryd.underlying126 HI.out.1 HI.out.2.1 HI.out.2.2.1 HI.out.2.2.2 rfl (by omega) (.slice (some ⟨w1.heap.size, 0, none⟩) 0 0) 0 [] rfl (World.ownsRow_made w1 #[] 0 (Nat.le_refl _) (by simp [maxLen]) (by simp)) ⟨gh, 0, none⟩ 8 8 news rfl HNL.out hnc.out hn1.out (by omega) (by simp [maxLen]) (by omega) (by simp) (w1.heap.size + 1) (by simp) ?_; intro gv cap w2 hown hgrow hat hlt3)
  have hgv : gh < gv := by
    rcases hat with e | e
    · simp only [Value.ownBlock, Option.some.injEq] at e; omega
    · omega
  simp only [Nat.zero_add, List.nil_append] at hown
  have hG2 : w1.grownBy w2 (some w1.heap.size) := (World.grownBy_alloc w1 _ _).trans hgrow
  have hB2 : Base r W0 w2 gk gh s := HB1.out.grown hG2 (fun x hx => by cases hx; exact Nat.le_refl _)
  have hW2 : Blk w2 w.heap.size 128 (arr 64 fun i => u6 (wv b i)) := ((HW1.out.grown hG2 (by have := HW1.out.lt; intro e; injection e with e; omega)).same (wRow_full b 0))
  have hv2 : VAt w2 gv (rounds s (wv b) 0) := by
    have hc := hown.cells (g := gv) rfl
    rw [← HNEWS.out] at hc
    have hc' : ∀ i, i < 8 → w2.cell? ⟨gv, i, none⟩ = some (u6 (s i)) := fun i hi => by
      have := hc i (u6 (s i)) (by rw [List.getElem?_map, List.getElem?_range hi]; rfl)
      rwa [add_zero_block] at this
    exact ⟨hc' 0 (by omega), hc' 1 (by omega), hc' 2 (by omega), hc' 3 (by omega), hc' 4 (by omega), hc' 5 (by omega), hc' 6 (by omega), hc' 7 (by omega)⟩
  have hgh2 := hB2.2.1.lt
  have HB2 := Lib.hid hB2
  clear hown hgrow hat hlt3 hG2 HB1 HW1 hnc hn1 HNEWS HNL HI
  refine loop_at 272 rfl (loopR _ _ r gk gh S j w.heap.size s b w2 hB2.1 hW2 hgh2 ⟨⟨rfl, rfl, rfl, rfl, rfl, rfl⟩, rfl, 0, rfl, rfl, Below.refl _ _, gv, cap, rfl, hgv, hv2⟩ ?_)
  clear hB2 hW2 hv2 hgv
  rintro f'' w3 ⟨⟨h2, h3, h4, h5, h6, h7⟩, h8, k, hk, h16, hb3, gv3, cap3, h15, hgv3, hv3⟩
  obtain rfl : k = 64 := by omega
  rw [lit272 f'', h2, h3, h4, h5, h6, h7, h8, h15, h16]
  clear h2 h3 h4 h5 h6 h7 h8 h15 h16
  have HB3 : Hid (Base r W0 w3 gk gh s) := Lib.hid (HB2.out.grown (only_of_below hb3 none) (fun x hx => by cases hx))
  have HV3 := Lib.hid hv3
  clear hb3 hv3 HB2
  go_wp2
  refine loop_at 272 rfl (loopA _ _ r gk gh S j gv3 cap3 s (rounds s (wv b) 64) w3 hgv3 ⟨⟨rfl, rfl, rfl, rfl, rfl, rfl⟩, rfl, 0, rfl, rfl, World.grownBy.refl _ _, HV3.out, HB3.out.2.1.same (hRow_0 s _)⟩ ?_)
  rintro f3 w4 ⟨⟨h2, h3, h4, h5, h6, h7⟩, h15, k, hk, h21, hG4, hv4, hB4⟩
  obtain rfl : k = 8 := by omega
  rw [lit272 f3, h2, h3, h4, h5, h6, h7, h15, h21]
  clear h2 h3 h4 h5 h6 h7 h15 h21 hv4
  have HB4 : Hid (Base r W0 w4 gk gh (mixed s (wv b))) := Lib.hid (by
    obtain ⟨q1, q2, q3, q4, q5, q6⟩ := HB3.out
    have l3 := q3.lt
    exact ⟨q1.grown hG4 (fun e => by injection e with e; omega), hB4.same (hRow_8 s _), q3.grown hG4 (fun e => by injection e with e; omega), q4.grown hG4 (Nat.le_of_lt l3) (fun x hx => by cases hx; omega), q5, q6⟩)
  clear hG4 hB4
  go_wp2
  refine frame_end rfl (n - 1) (by omega) ⟨j + 1, by rw [HN.out]; omega, ⟨rfl, rfl, rfl, rfl, rfl, by show Value.int .i64 (64 * (j : Int) + 64) = _; go_num⟩, ?_⟩
  have e : shaSt (B.take (j + 1)) = mixed s (wv b) := by
    have hjB : j < B.length := by rw [HN.out]; exact hlt
    have hb := HBB.out
    rw [List.getD_eq_getElem?_getD, List.getElem?_eq_getElem hjB] at hb
    rw [List.take_succ_eq_append_getElem hjB, shaSt_snoc, HSS.out]
    rw [show B[j] = b from hb]
  rw [e]
  exact HB4.out

set_option maxRecDepth 1000000 in
set_option maxHeartbeats 2000000 in
theorem loopB (Q : Exit → Act → World → Prop) (f : Nat → Value) (r gk gh : Nat) (S : ByteArray) (B : List (Nat → UInt8)) (W0 w : World) (hnb : B.length ≤ 17179869190) (hS : S.size = 64 * B.length)
    (hSi : ∀ j i : Nat, j < B.length → i < 64 → ∀ x : Int, x = ((64 * j + i : Nat) : Int) → ∀ w', (Instr.index 9 (.string S) (.int .i64 x)).run Tryd.prog w' = .ok (bv ((B.getD j (fun _ => 0)) i)) w')
    (h0 : InvB r gk gh S B W0 B.length f w)
    (hexit : ∀ f' w', InvB r gk gh S B W0 0 f' w' → Q (.exit 0) ⟨arr 272 f', []⟩ w') :
    (Code.loop (refLoop 0)).wp Tryd.prog Q ⟨arr 272 f, []⟩ w := by
  refine wp_loop_frame (InvB r gk gh S B W0) B.length f h0 ?_
  clear h0 f w
  rintro n f w ⟨j, hj, hloc, hB⟩
  by_cases hlt : j < B.length
  · exact roundB Q f r gk gh S B W0 w hnb hS hSi n j hj hlt hloc hB
  · obtain rfl : j = B.length := by omega
    obtain rfl : n = 0 := by omega
    obtain ⟨h2, h3, h4, h5, h6, h7⟩ := hloc
    rw [lit272, h2, h3, h4, h5, h6, h7]
    clear h2 h3 h4 h5 h6 h7
    have HB := Lib.hid hB
    have HX := Lib.hid hexit
    have hge : ¬ (64 * (B.length : Int) < (S.size : Int)) := by omega
    obtain ⟨nb, hnb'⟩ : ∃ nb, B.length = nb := ⟨_, rfl⟩
    have HNB := Lib.hid hnb'
    rw [hnb'] at hge ⊢
    have l2 : decide (64 * (nb : Int) < (S.size : Int)) = false := by simpa using hge
    clear hB hS hSi hj hlt hge hnb' hnb hexit
    conv => arg 2; whnf
    go_wp2
    refine exit_end rfl HX.out ⟨B.length, rfl, ⟨rfl, rfl, rfl, rfl, rfl, by show Value.int .i64 (64 * (nb : Int)) = _; rw [HNB.out]⟩, HB.out⟩

set_option maxRecDepth 1000000 in
set_option maxHeartbeats 2000000 in
theorem refOf_any (L : List UInt8) (hL : L.length ≤ 1099511627776) (w : World) :
    Calls Tryd.prog 61 #[.string ⟨L.toArray⟩] w fun e w' => e = .returned (shaV L) ∧ Below w.heap.size w w' := by
  have hF := Lib.hid (fun W => callsIn_wide.1 (filled_any L hL W))
  have hZ32 : Array.replicate 32 (bv 0) = arr 32 fun _ => bv 0 := by rw [← upto_none 32 (fun _ => bv 0) (bv 0)]; exact arr_congr fun i _ => by simp
  have HZ32 := Lib.hid hZ32
  clear hZ32
  go_enter Tryd.func61, Tryd.ntmps61
  go_wp2_with (first
    | (go_at_call 71; refine (hF.out _).mono ?_; rintro e w1 ⟨rfl, hb1⟩)
    | (go_at_call 72; refine (parts_any _).mono ?_; rintro e w2 ⟨rfl, rfl⟩))
  obtain ⟨B, hB, hBw⟩ : ∃ B, allBlocks L = B ∧ (filled L).length = 64 * B.length := ⟨_, rfl, filled_length L⟩
  obtain ⟨S, hS⟩ : ∃ S, (⟨(filled L).toArray⟩ : ByteArray) = S := ⟨_, rfl⟩
  have hSs : S.size = 64 * B.length := by rw [← hS, ← hBw]; simp [ByteArray.size]
  have hBl := allBlocks_length L
  rw [hB] at hBl
  have hnb2 : B.length ≤ 17179869190 := by omega
  have hSi : ∀ j i : Nat, j < B.length → i < 64 → ∀ x : Int, x = ((64 * j + i : Nat) : Int) → ∀ w', (Instr.index 9 (.string S) (.int .i64 x)).run Tryd.prog w' = .ok (bv ((B.getD j (fun _ => 0)) i)) w' := fun j i hj hi x hx w' => by
    rw [← hS, run_index_str 9 Tryd.underlying9 (filled L) x (64 * j + i) hx (by rw [hBw]; omega) w', filled_blk L j i (by rw [hB]; exact hj) hi, hB]
  rw [hS]
  have HB := Lib.hid hB
  clear hS hB hBw hBl hF
  have hw1 := hb1.size
  have hwk : w.heap.size < w1.heap.size := by simp at hw1; omega
  obtain ⟨gk, hgk⟩ : ∃ gk, w1.heap.size = gk := ⟨_, rfl⟩
  rw [hgk] at hwk ⊢
  obtain ⟨W3, hW3⟩ : ∃ W3, (w1.alloc (Obj.cells (arr 64 fun i => u6 (kAt i)) 128)).alloc (Obj.cells #[Value.int IntKind.u64 1779033703, Value.int IntKind.u64 3144134277, Value.int IntKind.u64 1013904242, Value.int IntKind.u64 2773480762, Value.int IntKind.u64 1359893119, Value.int IntKind.u64 2600822924, Value.int IntKind.u64 528734635, Value.int IntKind.u64 1541459225] 128) = W3 := ⟨_, rfl⟩
  rw [hW3]
  have hB0 : Base w.heap.size w W3 gk (gk + 1) hAt := by
    refine ⟨?_, ?_, ?_, ?_, hwk, by omega⟩
    · rw [← hW3]; exact (Blk.newAt _ _ hgk rfl).alloc _
    · rw [← hW3]; exact Blk.newAt _ _ (by simp [hgk]) (by kernel_rfl)
    · rw [← hW3]; exact (((Blk.newAt w _ rfl HZ32.out).below hb1 (by simp)).alloc _).alloc _
    · rw [← hW3]; exact ((((Below.refl _ w).alloc (Nat.le_refl _) _).trans (hb1.mono (by simp))).alloc (by omega) _).alloc (by simp; omega) _
  clear hW3 hgk hb1 hw1
  refine loop_at 272 rfl (loopB _ _ w.heap.size gk (gk + 1) S B w W3 hnb2 hSs hSi ⟨0, by omega, ⟨rfl, rfl, rfl, rfl, rfl, rfl⟩, hB0⟩ ?_)
  clear hB0 hSi hSs hnb2
  rintro f w2 ⟨j, hj, ⟨h2, h3, h4, h5, h6, h7⟩, hB2⟩
  obtain rfl : j = B.length := by omega
  rw [List.take_length] at hB2
  rw [lit272, h2, h3, h4, h5, h6, h7]
  clear h2 h3 h4 h5 h6 h7 hj
  have HB2 := Lib.hid hB2
  obtain ⟨nb, hnb⟩ : ∃ nb, B.length = nb := ⟨_, rfl⟩
  rw [hnb]
  clear hB2 hnb
  go_wp2_with (first
    | (refine wpList_build rfl 37 #[] rfl (by kernel_rfl) ?_)
    | (refine wpList_store_row rfl 37 _ _ rfl w2.heap.size _ rfl rfl 37 _ (heap_alloc_new w2 _) (by kernel_rfl) (by kernel_rfl) (by kernel_rfl) ?_))
  have hzz : (Tryd.prog.built 37 []).getD #[] = Array.replicate 32 (bv 0) := by kernel_rfl
  rw [hzz]
  clear hzz
  generalize hO0 : (w2.alloc (Obj.cells _ 37)) = wx
  have l3 := HB2.out.2.1.lt
  have l4 := HB2.out.2.2.1.lt
  have hx1 : Blk (wx.setRow w2.heap.size (Array.replicate 32 (bv 0))) w2.heap.size 37 (upto 32 0 (fun i => bv (idByte (shaSt B) i)) (bv 0)) := by
    rw [← hO0, upto_none]
    exact (Blk.new w2 _ _).setRow _
  have hx2 : w2.grownBy (wx.setRow w2.heap.size (Array.replicate 32 (bv 0))) (some w2.heap.size) := by
    rw [← hO0]
    exact only_of_below (below_setRow ((Below.refl _ w2).alloc (Nat.le_refl _) _) (Nat.le_refl _) _) _
  have hx3 := HB2.out.2.1.grown hx2 (fun e => by injection e with e; omega)
  clear hO0
  generalize wx.setRow w2.heap.size (Array.replicate 32 (bv 0)) = wy at *
  refine loop_at 272 rfl (loopO _ _ w.heap.size (gk + 1) w2.heap.size (shaSt B) wy (by omega) hx3 ⟨rfl, rfl, rfl, 0, rfl, rfl, World.grownBy.refl _ _, hx1⟩ ?_)
  rintro f' w3 ⟨h2, h6, h22, k, hk, h23, hG, hO⟩
  obtain rfl : k = 32 := by omega
  rw [upto_full] at hO
  rw [lit272 f', h2, h6, h22, h23]
  clear h2 h6 h22 h23
  have hG3 : w2.grownBy w3 (some w2.heap.size) := hx2.trans hG
  have hR : Blk w3 w.heap.size 37 (arr 32 fun _ => bv 0) := HB2.out.2.2.1.grown hG3 (fun e => by injection e with e; omega)
  have hb3 : Below w.heap.size w w3 := HB2.out.2.2.2.1.grown hG3 (Nat.le_of_lt l4) (fun x hx => by cases hx; omega)
  have HR := Lib.hid hR
  have HO := Lib.hid hO
  have HB3 := Lib.hid hb3
  have HZ : Hid (w.heap.size < w3.heap.size) := Lib.hid hR.lt
  clear hG hG3 hR hb3 hO l3 l4 hx1 hx2 hx3
  go_wp2_with (first
    | (refine wpList_load_row rfl 37 _ rfl w2.heap.size rfl 37 (arr 32 fun i => bv (idByte (shaSt B) i)) (0, 0) _ HO.out Tryd.underlying37 rfl (by rw [arr_size]; kernel_rfl) ?_)
    | (refine wpList_store_row rfl 37 _ _ rfl w.heap.size (arr 32 fun i => bv (idByte (shaSt B) i)) rfl rfl 37 _ HR.out (by rw [arr_size]; kernel_rfl) (by rw [arr_size, arr_size]) (arr_all_bv _ _) ?_))
  refine bodyPost_ret (v := .agg (arr 32 fun i => bv (idByte (shaSt B) i))) (results_cell_row (p := 2) (ty := 37) rfl _ _ w.heap.size 37 _ (0, 0) _ rfl (HR.out.setRow _) Tryd.underlying37 rfl (by rw [arr_size]; kernel_rfl)) rfl ⟨?_, below_setRow HB3.out (Nat.le_refl _) _⟩
  rw [← HB.out]
  rfl
end Go.Proofs.YtgpbpdjamimbfaaDoor
namespace Go.Proofs.YtgpbpdjamimbfaaDoor
open Go Go.RowKit Go.Shelf

/-- A slice of strings. -/
def RdS (W : World) (A : Option Addr) (qs : List (List UInt8)) : Prop :=
  ∀ k, k < qs.length → ∃ ad, A = some ad ∧ ad.block < W.heap.size ∧ W.cell? (ad.add k) = some (.string ⟨(qs.getD k []).toArray⟩)
theorem ba_len (l : List UInt8) : (⟨l.toArray⟩ : ByteArray).size = l.length := by simp [ByteArray.size]

set_option maxRecDepth 100000 in
set_option maxHeartbeats 1000000 in
theorem text_any (f : Nat → UInt8) (w : World) :
    Calls Tryd.prog 48 #[.agg (arr 32 fun i => bv (f i))] w fun e w' => e = .returned (.string ⟨(id32 f).toArray⟩) ∧ Below w.heap.size w w' := by
  obtain ⟨af, haf⟩ : ∃ af, (arr 32 fun i => bv (f i)) = af := ⟨_, rfl⟩
  rw [haf]
  have HAF := Lib.hid haf
  clear haf
  go_enter Tryd.func48, Tryd.ntmps48
  go_wp2
  have c0 : Blk (w.alloc (.cells af 37)) w.heap.size 37 (arr 32 fun i => bv (f i)) := by rw [HAF.out]; exact Blk.new _ _ _
  have b0 : Below w.heap.size w (w.alloc (.cells af 37)) := (Below.refl _ _).alloc (Nat.le_refl _) _
  generalize w.alloc (.cells af 37) = W0 at *
  go_loopw [3, 4] (fun s i wr => ∃ k : Nat, k ≤ 32 ∧ i = .int .i64 (k : Int) ∧ s = .string ⟨((id32 f).take k).toArray⟩ ∧ Blk wr w.heap.size 37 (arr 32 fun i => bv (f i)) ∧ Below w.heap.size w wr) (fun _ i _ => 32 - (intOf i).toNat)
  case atStart => exact ⟨0, by omega, rfl, rfl, c0, b0⟩
  case round =>
    clear c0 b0
    obtain ⟨k, hk, rfl, rfl, hB, hb⟩ := hrel
    by_cases hlt : k < 32
    · have c1 := hB.cell k
      rw [arr_get, if_pos hlt] at c1
      obtain ⟨y, hy⟩ : ∃ y, f k = y := ⟨_, rfl⟩
      rw [hy] at c1
      unfold bv at c1
      have hst : Hid ((id32 f).take (k + 1) = (id32 f).take k ++ [y]) := Lib.hid (by
        rw [List.take_succ_eq_append_getElem (by simp [id32]; exact hlt)]
        simp [id32, hy])
      have hln : ((id32 f).take k).length ≤ 32 := by rw [List.length_take]; simp [id32]; omega
      obtain ⟨s, hs⟩ : ∃ s, (id32 f).take k = s := ⟨_, rfl⟩
      rw [hs] at hst hln ⊢
      have hcv := fun W => str_rd (rdB_one W y)
      have hcat : (({ data := s.toArray } : ByteArray) ++ { data := [y].toArray }) = ⟨(s ++ [y]).toArray⟩ := ba_app _ _
      have hno : ¬ (9223372036854775807 < s.length + [y].length) := by simp; omega
      have HB := Lib.hid hB
      have HBB := Lib.hid hb
      have k1 : (k : Int) < 32 := by omega
      clear hB hb hs hy
      unfold bv at hcv
      go_wp2
      go_roundw
      case rel => exact ⟨k + 1, by omega, by go_num, by rw [hst.out], (HB.out.alloc _), HBB.out.alloc HBB.out.size _⟩
      case measure => simp [intOf]; omega
    · obtain rfl : k = 32 := by omega
      rw [show (id32 f).take 32 = id32 f from by rw [List.take_of_length_le (by simp [id32])]]
      have HBB := Lib.hid hb
      clear hB hb
      obtain ⟨s, hs⟩ : ∃ s, id32 f = s := ⟨_, rfl⟩
      rw [hs]
      have HS := Lib.hid hs
      clear hs
      go_wp2
      go_ret
      exact ⟨by rw [HS.out]; rfl, HBB.out⟩
end Go.Proofs.YtgpbpdjamimbfaaDoor
namespace Go.Proofs.YtgpbpdjamimbfaaDoor
open Go Go.RowKit Go.Shelf

end Go.Proofs.YtgpbpdjamimbfaaDoor
