/-
  A row of bytes of the call's own that may bear the run-time's mark behind its last cell (what '[]byte(s)' makes): appends onto it, whether there is room or not; it as a string. No condition of its own.
-/
import Derived.Test.YtkkanaefngggoaaDoorRd
import Derived.Test.YtkkanaefngggoaaDoorStrT
import Derived.Deep.AppendSrc
import Derived.Deep.MidRow
import Derived.Deep.Upon
import Derived.Lib.SlBuf
import Derived.Deep.DeepAppendWide
namespace Go.Proofs.YtkkanaefngggoaaDoor
open Go Go.RowKit

/-- The row's cells lie from 0 on in block g, as many as the capacity says, none frozen; the first n read as bs. -/
def OwnB (w : World) (base : Nat) (v : Value) (bs : List UInt8) : Prop :=
  ∃ g cap, v = .slice (some ⟨g, 0, none⟩) bs.length cap ∧ base ≤ g ∧ g < w.heap.size ∧ bs.length ≤ cap ∧ cap ≤ maxLen ∧ (∀ j, j < cap → (w.cell? ⟨g, j, none⟩).isSome = true ∧ w.frozen? ⟨g, j, none⟩ = false) ∧
    ∀ j, j < bs.length → w.cell? ⟨g, j, none⟩ = some (bv (bs.getD j 0))
theorem OwnB.below {w w' : World} {base : Nat} {v : Value} {bs : List UInt8} (h : OwnB w base v bs) (hb : Below w.heap.size w w') : OwnB w' base v bs := by
  obtain ⟨g, cap, h1, h2, h3, h4, h5, h6, h7⟩ := h
  exact ⟨g, cap, h1, h2, Nat.lt_of_lt_of_le h3 hb.size, h4, h5, fun j hj => ⟨by rw [hb.cell (p := ⟨g, j, none⟩) h3]; exact (h6 j hj).1, by rw [hb.frozen (p := ⟨g, j, none⟩) h3]; exact (h6 j hj).2⟩, fun j hj => by rw [hb.cell (p := ⟨g, j, none⟩) h3]; exact h7 j hj⟩
theorem OwnB.rd {w : World} {base : Nat} {v : Value} {bs : List UInt8} (h : OwnB w base v bs) (hm : bs.length ≤ 140737488351232) : RdB w (fun b => base ≤ b ∧ b < w.heap.size) v bs := by
  obtain ⟨g, cap, rfl, h2, h3, h4, h5, h6, h7⟩ := h
  exact rdB_cells h7 rfl h4 hm ⟨h2, h3⟩

variable {P : Program}
theorem run_append_ownB (w : World) (base : Nat) (t ty e : TypeId) (i : TypeInfo) (z : Value) (ht : P.underlying t = some (.slice e)) (hi : P.info? e = some i) (hz : i.zero = some z)
    (hsize : i.size = 1) (hby : i.bytes = 1) (hzs : z.cells.size = 1) (v : Value) (bs : List UInt8) (hown : OwnB w base v bs)
    (ok : Nat → Prop) (A : Option Addr) (m c : Nat) (cs : List UInt8) (hr : RdB w ok (.slice A m c) cs) (hm : 0 < m) (h63 : bs.length + m ≤ 140737488355328) (hbase : base ≤ w.heap.size) :
    ∃ v' w', (Builtin.append_ #[t, t] ty #[v, .slice A m c]).run P w = .ok v' w' ∧ OwnB w' base v' (bs ++ cs) ∧ Below base w w' ∧ w.heap.size ≤ w'.heap.size := by
  obtain ⟨g, cap, rfl, h2, h3, h4, h5, h6, h7⟩ := hown
  obtain ⟨A', c', hv, r1, r2, r3⟩ := hr
  injection hv with e1 e2 e3
  subst e1; subst e2; subst e3
  obtain ⟨ad, rfl, _, hc⟩ := r3 hm
  have hnews : ∀ (j : Nat) (x : Value), (cs.map bv)[j]? = some x → w.cell? (ad.add j) = some x := fun j x hx => by
    have hj : j < cs.length := by
      by_cases hj : j < cs.length
      · exact hj
      · rw [List.getElem?_eq_none (by simpa using hj)] at hx; cases hx
    rw [List.getElem?_map, List.getElem?_eq_getElem hj] at hx
    cases hx
    rw [hc j hj, List.getD_eq_getElem?_getD, List.getElem?_eq_getElem hj]
    rfl
  have hone : ∀ x ∈ cs.map bv, x.oneCell' = true := fun x hx => by
    simp only [List.mem_map] at hx
    obtain ⟨b, _, rfl⟩ := hx
    rfl
  have hs := Src.ofSlice (P := P) (size := 1) w (tx := t) ht ad cs.length c (cs.map bv) (by simp) hnews hone
  have hget : ∀ (j : Nat) (l : List UInt8), j < l.length → (l.map bv)[j]? = some (bv (l.getD j 0)) := fun j l hj => by
    rw [List.getElem?_map, List.getElem?_eq_getElem hj, List.getD_eq_getElem?_getD, List.getElem?_eq_getElem hj]; rfl
  by_cases hroom : bs.length + cs.length ≤ cap
  · have hrun := run_append_room_src (P := P) w t t ty e i ht hi g 0 bs.length cap (.slice (some ad) cs.length c) cs.length (cs.map bv) (by rw [hsize]; exact hs) hroom
      (fun j hj => by rw [hsize]; simp at hj; simpa using (h6 (bs.length + j) (by omega)).1) (fun j hj => by rw [hsize]; simp at hj; simpa using (h6 (bs.length + j) (by omega)).2)
    rw [hsize] at hrun
    simp only [Nat.zero_add, Nat.mul_one] at hrun
    have hbel : Below base w (w.setCells g bs.length (cs.map bv)) := Go.Lib.below_setCells g h2 _ _ (Below.refl _ _)
    have hsz : w.heap.size ≤ (w.setCells g bs.length (cs.map bv)).heap.size := hbel.size
    refine ⟨_, _, hrun, ⟨g, cap, by rw [List.length_append], h2, by omega, by rw [List.length_append]; exact hroom, h5, fun j hj => ⟨World.isSome_setCells g _ _ _ _ (h6 j hj).1, by rw [World.frozen?_setCells]; exact (h6 j hj).2⟩, fun j hj => ?_⟩, hbel, hsz⟩
    rw [List.length_append] at hj
    by_cases hjl : j < bs.length
    · rw [World.cell?_setCells_out g _ _ _ _ (fun _ _ => .inl hjl), h7 j hjl]
      simp [List.getD_eq_getElem?_getD, List.getElem?_append_left hjl]
    · have := World.cell?_setCells_in g (cs.map bv) bs.length w (fun k hk => (h6 _ (by simp at hk; omega)).1) (j - bs.length) (by simp; omega)
      rw [show bs.length + (j - bs.length) = j from by omega] at this
      rw [this]
      simp [List.getD_eq_getElem?_getD, List.getElem?_append_right (by omega : bs.length ≤ j), List.getElem?_eq_getElem (show j - bs.length < cs.length by omega)]
  · have hold : (Builtin.firstCells i.size bs.length (.slice (some ⟨g, 0, none⟩) bs.length cap)).run P w.drew = .ok (bs.map bv).toArray w.drew := by
      rw [hsize]
      exact run_firstCells_some w.drew 1 bs.length ⟨g, 0, none⟩ bs.length cap (bs.map bv) (by simp) (fun j x hx => by
        have hj : j < bs.length := by
          by_cases hj : j < bs.length
          · exact hj
          · rw [List.getElem?_eq_none (by simpa using hj)] at hx; cases hx
        rw [hget j bs hj] at hx
        cases hx
        rw [add_zero_block]
        exact h7 j hj)
    have hnc : Builtin.nextslicecap (bs.length + cs.length) cap ≤ 281474976710656 := by
      have := nextslicecap_le_wide (need := bs.length + cs.length) (old := cap) (by omega)
      omega
    have hrun := run_append_grow_src (P := P) w t t ty e i z ht hi hz (some ⟨g, 0, none⟩) bs.length cap (bs.map bv) hold (.slice (some ad) cs.length c) cs.length (cs.map bv) (by rw [hsize]; exact hs) (by omega) (by omega) (by rw [hby]; omega)
    have hge := grownCap_ge w (bs.length + cs.length) cap e
    have hle := grownCap_le_maxLen w (bs.length + cs.length) cap e (by unfold maxLen; omega)
    obtain ⟨cap', hcap'⟩ : ∃ cap', grownCap w (bs.length + cs.length) cap e = cap' := ⟨_, rfl⟩
    rw [hcap'] at hrun hge hle
    obtain ⟨C, hC⟩ : ∃ C, (bs.map bv ++ cs.map bv).toArray ++ Builtin.zeroCells z.cells (cap' - (bs.length + cs.length)) = C := ⟨_, rfl⟩
    rw [hC] at hrun
    have hCs : C.size = cap' := by
      rw [← hC]
      simp [size_zeroCells, hzs]
      omega
    have hb : Blk (w.drew.alloc (.cells C e)) w.heap.size e C := Blk.new w.drew e C
    refine ⟨_, _, hrun, ⟨w.heap.size, cap', by rw [List.length_append], hbase, by simp, by rw [List.length_append]; exact hge, hle, fun j hj => ⟨by rw [hb.cell]; simp [hCs, hj], hb.frozen j⟩, fun j hj => ?_⟩, (Below.refl _ _).drew.alloc hbase _, by simp⟩
    rw [hb.cell, ← hC, ← List.map_append]
    rw [Array.getElem?_append_left (by simp; rw [List.length_append] at hj; exact hj)]
    simp only [List.getElem?_toArray]
    exact hget j (bs ++ cs) hj

section
variable {F : Fence} {n : Nat} {P : Program} {ops : Array Oper} {rest : List Oper} {o : Oper} {a : Act} {w : World} {Q : Exit → Act → World → Prop}
theorem wpListIn_append_run (hF : ∀ f, F.fn f) (hgd : o.guard = none) (s x : Operand) (t t' : TypeId) (ho : o.op = .call { callee := .builtin .append, args := #[s, x], argTypes := #[t, t'] })
    (vs vx : Value) (hs : a.eval s = vs) (hx : a.eval x = vx) (v : Value) (w' : World) (hrun : (Builtin.append_ #[t, t'] o.type #[vs, vx]).run P w = .ok v w')
    (h : wpListIn F n P ops Q rest (a.put o.dst v) w') : wpListIn F n P ops Q (o :: rest) a w := by
  refine wpListIn_plain hgd fun K hK => ?_
  unfold Oper.wpIn
  refine ⟨fun f _ => hF f, ?_⟩
  rw [Oper.semAt_plain F _ _ (by rw [ho]; intro c hc; cases hc)]
  simp [execOp, ho, resolve, invoke, builtin, hs, hx, hrun, Result.andThen]
  exact hK _ _ h
theorem wpListIn_append_ownB (hF : ∀ f, F.fn f) (hgd : o.guard = none) (s x : Operand) (t : TypeId) (ho : o.op = .call { callee := .builtin .append, args := #[s, x], argTypes := #[t, t] })
    (base : Nat) (e : TypeId) (i : TypeInfo) (z : Value) (ht : P.underlying t = some (.slice e)) (hi : P.info? e = some i) (hz : i.zero = some z)
    (hsize : i.size = 1) (hby : i.bytes = 1) (hzs : z.cells.size = 1) (v : Value) (bs : List UInt8) (hs : a.eval s = v) (hown : OwnB w base v bs)
    (ok : Nat → Prop) (A : Option Addr) (m c : Nat) (cs : List UInt8) (hx : a.eval x = .slice A m c) (hr : RdB w ok (.slice A m c) cs) (hm : 0 < m) (h63 : bs.length + m ≤ 140737488355328) (hbase : base ≤ w.heap.size)
    (h : ∀ v' w', OwnB w' base v' (bs ++ cs) → Below base w w' → wpListIn F n P ops Q rest (a.put o.dst v') w') : wpListIn F n P ops Q (o :: rest) a w := by
  obtain ⟨v', w', hrun, q1, q2, _⟩ := run_append_ownB (P := P) w base t o.type e i z ht hi hz hsize hby hzs v bs hown ok A m c cs hr hm h63 hbase
  exact wpListIn_append_run hF hgd s x t t ho v _ hs hx v' w' hrun (h v' w' q1 q2)
theorem wpListIn_convert_run (hF : ∀ f, F.fn f) (hgd : o.guard = none) (src dst : TypeId) (x : Operand) (ho : o.op = .convert src dst x) (vx : Value) (hx : a.eval x = vx) (v : Value) (w' : World) (hrun : (convert src dst vx).run P w = .ok v w')
    (h : wpListIn F n P ops Q rest (a.put o.dst v) w') : wpListIn F n P ops Q (o :: rest) a w := by
  refine wpListIn_val hF hgd (by rw [ho]; intro c hc; cases hc) v w' ?_ h
  simp [execOp, ho, hx, hrun, Result.andThen]
end
/-- '[]byte(s)' of the program's. -/
theorem run_bytes_of (L : List UInt8) (hL : L.length ≤ 1099511627776) (w : World) : ∃ v w', (convert 9 51 (.string ⟨L.toArray⟩)).run Tryd.prog w = .ok v w' ∧ OwnB w' w.heap.size v L ∧ Below w.heap.size w w' := by
  have hrun := run_bytes_of_string (P := Tryd.prog) w 9 51 5 ⟨L.toArray⟩ Tryd.underlying9 Tryd.underlying51 Tryd.underlying5
  have hsz : (⟨L.toArray⟩ : ByteArray).size = L.length := by simp [ByteArray.size]
  rw [hsz] at hrun
  have hge := grownCap_ge w L.length 0 5
  have hle := grownCap_le_maxLen w L.length 0 5 (by unfold maxLen; omega)
  obtain ⟨cap, hcap⟩ : ∃ cap, grownCap w L.length 0 5 = cap := ⟨_, rfl⟩
  rw [hcap] at hrun hge hle
  obtain ⟨C, hC⟩ : ∃ C, bytesRow ⟨L.toArray⟩ cap = C := ⟨_, rfl⟩
  rw [hC] at hrun
  have hCs : C.size = cap := by
    rw [← hC]
    simp [bytesRow, ByteArray.size]
    omega
  have hg : (w.drew.alloc (.cells C 5 (C.size, C.size + 1))).heap[w.heap.size]? = some (.cells C 5 (C.size, C.size + 1)) := heap_alloc_new w.drew _
  obtain ⟨w', hw'⟩ : ∃ w', (w.drew.alloc (.cells C 5 (C.size, C.size + 1))) = w' := ⟨_, rfl⟩
  have hszw : w'.heap.size = w.heap.size + 1 := by rw [← hw']; simp
  have hbw : Below w.heap.size w w' := hw' ▸ (Below.refl _ _).drew.alloc (Nat.le_refl _) _
  rw [hw'] at hrun hg
  have hcell : ∀ j, w'.cell? ⟨w.heap.size, j, none⟩ = C[j]? := fun j => by unfold World.cell?; simp only [hg]; simp
  have hfz : ∀ j, j < cap → w'.frozen? ⟨w.heap.size, j, none⟩ = false := fun j hj => by
    unfold World.frozen?
    simp only [hg]
    simp
    omega
  refine ⟨_, w', hrun, ⟨w.heap.size, cap, rfl, Nat.le_refl _, by omega, hge, hle, fun j hj => ⟨by rw [hcell]; simp [hCs, hj], hfz j hj⟩, fun j hj => ?_⟩, hbw⟩
  rw [hcell, ← hC]
  unfold bytesRow
  rw [Array.getElem?_append_left (by simpa using hj)]
  simp [List.getD_eq_getElem?_getD, List.getElem?_eq_getElem hj, bv]
end Go.Proofs.YtkkanaefngggoaaDoor
