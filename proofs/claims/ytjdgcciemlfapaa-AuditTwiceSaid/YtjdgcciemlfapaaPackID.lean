/-
  pack.writeID, pack.writeIDs: an ID's bytes, or none, if it is the zero one; all bytes of some IDs. For every argument, in whatever memory.
-/
import Derived.Test.YtjdgcciemlfapaaPackStr
import Derived.Test.YtjdgcciemlfapaaRd
import Derived.Test.YtjdgcciemlfapaaPackKit
import Derived.Deep.DeepMust
namespace Go.Proofs.Ytjdgcciemlfapaa
open Go Go.RowKit PackMath

section
variable {P : Program} {ops : Array Oper} {rest : List Oper} {o : Oper} {a : Act} {w : World} {Q : Exit → Act → World → Prop}
theorem run_loadAt_cells {P : Program} (ty : TypeId) (ad : Addr) (N : Nat) (f : Nat → Value) (e : TypeId) (w : World) (hg : ∀ i, i < N → w.cell? (ad.add i) = some (f i))
    (hu : P.underlying ty = some (.array N e)) (hi : (P.info? ty).map (·.size) = some N) : (Instr.loadAt ty (.pointer (some ad))).run P w = .ok (.agg (arr N f)) w := by
  have hl := run_loadCells_list (P := P) w ad (arr N f).toList (fun j v hv => by
    rw [Array.getElem?_toList, arr_get] at hv
    by_cases hj : j < N
    · rw [if_pos hj] at hv
      cases hv
      exact hg j hj
    · rw [if_neg hj] at hv; cases hv)
  simp only [Array.length_toList, arr_size, Array.toArray_toList] at hl
  cases hq : P.info? ty with
  | none => simp [hq] at hi
  | some i =>
    have hs : i.size = N := by simpa [hq] using hi
    have hagg : (isAgg ty).run P w = .ok true w := by
      unfold isAgg
      rw [Sem.run_bind, run_underlying hu w]
      rfl
    simp [Instr.loadAt, Instr.sureAddr, loadVar, Sem.run_bind, hagg, sizeOf, typeInfo, hq, hs, hl]
theorem wpList_load_at (hgd : o.guard = none) (ty : TypeId) (x : Operand) (ho : o.op = .load ty x) (ad : Addr) (hx : a.eval x = .pointer (some ad)) (N : Nat) (f : Nat → Value) (e : TypeId)
    (hg : ∀ i, i < N → w.cell? (ad.add i) = some (f i)) (hu : P.underlying ty = some (.array N e)) (hi : (P.info? ty).map (·.size) = some N)
    (h : wpList P ops Q rest (a.put o.dst (.agg (arr N f))) w) : wpList P ops Q (o :: rest) a w := by
  refine wpList_plain hgd fun K hK => ?_
  unfold Oper.wp
  have hl := run_loadAt_cells (P := P) ty ad N f e w hg hu hi
  simp [execOp, ho, hx, hl, Result.andThen, Oper.upon]
  exact hK _ _ h
end
theorem ids_snoc (ps : List (Nat → UInt8)) (k : Nat) (h : k < ps.length) : ((ps.take (k + 1)).map id32).flatten = ((ps.take k).map id32).flatten ++ id32 (ps.getD k fun _ => 0) := by
  rw [List.take_succ_eq_append_getElem h, List.map_append, List.flatten_append, List.getD_eq_getElem?_getD, List.getElem?_eq_getElem h]
  simp
theorem ids_len (ps : List (Nat → UInt8)) : (ps.map id32).flatten.length = 32 * ps.length := by
  rw [flatten32 _ (fun p hp => by
    simp only [List.mem_map] at hp
    obtain ⟨f, _, rfl⟩ := hp
    exact id32_length f), List.length_map]
end Go.Proofs.Ytjdgcciemlfapaa
