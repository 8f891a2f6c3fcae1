/-
  A range beside two rows of IDs: what each step leaves. No condition.
-/
import Derived.Test.YtphknicdllcbmaaDoorTreeLawA
namespace Go.Proofs.YtphknicdllcbmaaDoor
open Go Go.RowKit Go.Shelf TreeM

/-- A range, the leaves and the roots so far, in memory of a law's own. -/
structure WR (w : World) (ts ls rs : List D) (g : Nat) (Z : Nat → Prop) (vL vR : Value) (W : World) : Prop where
  tree : TreeAt W Z g ts
  lf : W.ownsRow w.heap.size 30 32 vL ls.length (idCells ls)
  rt : W.ownsRow w.heap.size 30 32 vR rs.length (idCells rs)
  zb : ∀ i, Z i → w.heap.size ≤ i
  zl : ∀ i, vL.ownBlock = some i → ¬ Z i
  zr : ∀ i, vR.ownBlock = some i → ¬ Z i
  lr : ∀ i, vL.ownBlock = some i → vR.ownBlock ≠ some i
  old : Below w.heap.size w W
section
variable {w W W' : World} {ts ls rs : List D} {g : Nat} {Z : Nat → Prop} {vL vR : Value}
theorem WR.zlt (h : WR w ts ls rs g Z vL vR W) : ∀ i, Z i → i < W.heap.size := RangeAt.lt h.tree
theorem WR.below (h : WR w ts ls rs g Z vL vR W) (hb : Below W.heap.size W W') : WR w ts ls rs g Z vL vR W' :=
  ⟨RangeAt.below h.tree hb, Turn.own (Turn.of_below hb) h.lf (fun i hi => by have := (h.lf.lt i hi).2; omega), Turn.own (Turn.of_below hb) h.rt (fun i hi => by have := (h.rt.lt i hi).2; omega), h.zb, h.zl, h.zr, h.lr, h.old.trans (hb.mono h.old.size)⟩
theorem below_turnW {B : Nat} {S : Nat → Prop} {w0 : World} (hb : Below B w0 W) (hB : B ≤ w0.heap.size) (ht : Turn S W W') (hs : ∀ i, S i → B ≤ i) : Below B w0 W' :=
  ((Turn.of_below hb).trans ht (fun i _ hi => hs i hi)).below hB (fun i hi => by omega)
theorem WR.app (h : WR w ts ls rs g Z vL vR W) {l : List D} {m : Nat} {v' : Value} (hm : m = l.length) (ho : W'.ownsRow w.heap.size 30 32 v' (ls.length + m) (idCells ls ++ idCells l)) (hg : W.grownBy W' vL.ownBlock) (hv : v'.ownBlock = vL.ownBlock ∨ v'.ownBlock = some W.heap.size) : WR w ts (ls ++ l) rs g Z v' vR W' := by
  have t : Turn (fun i => vL.ownBlock = some i) W W' := (Turn.refl _ _).grown hg (fun k hk _ => hk)
  refine ⟨RangeAt.turn h.tree t (fun i hi he => h.zl i he hi), by rw [List.length_append, ← hm, idCells_append]; exact ho, Turn.own t h.rt (fun i hi he => h.lr i he hi), h.zb, fun i hi hz => ?_, h.zr, fun i hi hr => ?_, below_turnW h.old (Nat.le_refl _) t (fun i hi => (h.lf.lt i hi).1)⟩
  · rcases hv with e | e
    · exact h.zl i (e ▸ hi) hz
    · rw [e] at hi
      injection hi with hi
      have := h.zlt i hz
      omega
  · rcases hv with e | e
    · exact h.lr i (e ▸ hi) hr
    · rw [e] at hi
      injection hi with hi
      have := (h.rt.lt i hr).2
      omega
theorem WR.appR (h : WR w ts ls rs g Z vL vR W) {f : D} {v' : Value} (ho : W'.ownsRow w.heap.size 30 32 v' (rs.length + 1) (idCells rs ++ idc f)) (hg : W.grownBy W' vR.ownBlock) (hv : v'.ownBlock = vR.ownBlock ∨ v'.ownBlock = some W.heap.size) : WR w ts ls (rs ++ [f]) g Z vL v' W' := by
  have t : Turn (fun i => vR.ownBlock = some i) W W' := (Turn.refl _ _).grown hg (fun k hk _ => hk)
  refine ⟨RangeAt.turn h.tree t (fun i hi he => h.zr i he hi), Turn.own t h.lf (fun i hi he => h.lr i hi he), by rw [List.length_append, List.length_singleton, idCells_append, idCells_one]; exact ho, h.zb, h.zl, fun i hi hz => ?_, fun i hi hr => ?_, below_turnW h.old (Nat.le_refl _) t (fun i hi => (h.rt.lt i hi).1)⟩
  · rcases hv with e | e
    · exact h.zr i (e ▸ hi) hz
    · rw [e] at hi
      injection hi with hi
      have := h.zlt i hz
      omega
  · rcases hv with e | e
    · exact h.lr i hi (e ▸ hr)
    · rw [e] at hr
      injection hr with hr
      have := (h.lf.lt i hi).2
      omega
theorem WR.put (h : WR w ts ls rs g Z vL vR W) {ts' : List D} (hl : TLeft Z g ts' W W') : ∃ Z', WR w ts' ls rs g Z' vL vR W' := by
  obtain ⟨Z', h1, t, h3⟩ := hl
  refine ⟨Z', h1, Turn.own t h.lf (fun i hi => h.zl i hi), Turn.own t h.rt (fun i hi => h.zr i hi), fun i hi => ?_, fun i hi hz => ?_, fun i hi hz => ?_, h.lr, below_turnW h.old (Nat.le_refl _) t h.zb⟩
  · rcases h3 i hi with h' | h'
    · exact h.zb i h'
    · exact Nat.le_trans h.old.size h'
  · rcases h3 i hz with h' | h'
    · exact h.zl i hi h'
    · have := (h.lf.lt i hi).2
      omega
  · rcases h3 i hz with h' | h'
    · exact h.zr i hi h'
    · have := (h.rt.lt i hi).2
      omega
theorem WR.fresh (h : WR w ts ls rs g Z vL vR W) {g' : Nat} {Z' : Nat → Prop} {ts' : List D} (ht : TreeAt W' Z' g' ts') (hz : ∀ i, Z' i → W.heap.size ≤ i) (hb : Below W.heap.size W W') : WR w ts' ls rs g' Z' vL vR W' := by
  have h' := h.below hb
  exact ⟨ht, h'.lf, h'.rt, fun i hi => Nat.le_trans h.old.size (hz i hi), fun i hi hzi => by have := hz i hzi; have := (h.lf.lt i hi).2; omega, fun i hi hzi => by have := hz i hzi; have := (h.rt.lt i hi).2; omega, h.lr, h'.old⟩
theorem WR.leaves (h : WR w ts ls rs g Z vL vR W) (hn : ls.length ≤ 1000) : RdI W (fun b => b < W.heap.size) vL ls := (own_rd h.lf (by omega)).mono fun b hb => hb.2.2
theorem WR.roots (h : WR w ts ls rs g Z vL vR W) (hn : rs.length ≤ 1000) : RdI W (fun b => b < W.heap.size) vR rs := (own_rd h.rt (by omega)).mono fun b hb => hb.2.2
end
theorem wr_start {w W : World} {g : Nat} {Z : Nat → Prop} (ht : TreeAt W Z g []) (hz : ∀ i, Z i → w.heap.size ≤ i) (hb : Below w.heap.size w W) : WR w [] [] [] g Z (.slice none 0 0) (.slice none 0 0) W :=
  ⟨ht, ⟨rfl, .inl ⟨rfl, rfl⟩⟩, ⟨rfl, .inl ⟨rfl, rfl⟩⟩, hz, fun i hi => by simp [Value.ownBlock] at hi, fun i hi => by simp [Value.ownBlock] at hi, fun i hi => by simp [Value.ownBlock] at hi, hb⟩
/-- The roots of the beginnings. -/
def rootsW (ls : List D) : List D := (List.range ls.length).map fun j => mth (ls.take (j + 1))
theorem rootsW_length (ls : List D) : (rootsW ls).length = ls.length := by unfold rootsW; simp
theorem rootsW_snoc (ls : List D) (f : D) : rootsW (ls ++ [f]) = rootsW ls ++ [mth (ls ++ [f])] := by
  unfold rootsW
  rw [List.length_append, List.length_singleton, List.range_succ, List.map_append, List.map_singleton]
  congr 1
  · refine List.map_congr_left fun j hj => ?_
    have := List.mem_range.1 hj
    rw [List.take_append_of_le_length (by omega)]
  · rw [List.take_of_length_le (by rw [List.length_append]; simp)]
theorem rootsW_get (ls : List D) (k : Nat) (hk : k < ls.length) : (rootsW ls).getD k dz = mth (ls.take (k + 1)) := by
  unfold rootsW
  rw [List.getD_eq_getElem?_getD, List.getElem?_map, List.getElem?_range hk]
  rfl
section
variable {ops : Array Oper} {rest : List Oper} {o : Oper} {a : Act} {w : World} {Q : Exit → Act → World → Prop}
theorem wpList_buildIdG (hw : Region.wanted o (yielded ops a.tmps) = true) (x : Operand) (ho : o.op = .buildSlice 22 1 #[(0, x)]) (f : D) (hx : a.eval x = .agg (arr 32 fun i => bv (f i)))
    (h : wpList Tryd.prog ops Q rest (a.put o.dst (.slice (some ⟨w.heap.size, 0, none⟩) 1 1)) (w.alloc (.cells (arr 32 fun i => bv (f i)) 30))) : wpList Tryd.prog ops Q (o :: rest) a w :=
  wpList_step fun K hK => by
    rw [if_pos hw]
    exact wp_build_idc x ho f (by rw [hx, idc_arr]) (hK _ _ h)
end
theorem rd_one {w W : World} {f : D} (hW : w.alloc (.cells (arr 32 fun i => bv (f i)) 30) = W) : RdI W (fun b => b = w.heap.size) (.slice (some ⟨w.heap.size, 0, none⟩) 1 1) [f] := by
  have := rdI_new w [f] 1 rfl (by omega)
  rw [show (idCells [f]).toArray = arr 32 fun i => bv (f i) from by rw [idCells_one, idc_arr]] at this
  rw [← hW]
  exact this
end Go.Proofs.YtphknicdllcbmaaDoor
