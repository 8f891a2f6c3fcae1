/-
  Maps whose keys are three numbers, or an ID. No condition.
-/
import Derived.Test.YtclhfokflagopaaRndLaw
namespace Go.Proofs.Ytclhfokflagopaa
open Go Go.RowKit Go.Maps

theorem k3_row : (53 : TypeId) < Try.prog.types.size := of_decide_eq_true (by kernel_rfl)
theorem k3_wide : (match Try.prog.underlying 53 with | some (.array _ _) | some (.struct _) => true | _ => false) = true := by kernel_rfl
set_option maxRecDepth 100000 in
theorem k3_law : Keyed Try.prog 53 := Keyed.of_law (deep_law_laid cnt_laid (m := 2) (by omega) k3_row (by kernel_rfl) k3_wide)
theorem k3_keyType : Try.prog.keyType 53 = true := by kernel_rfl
theorem k3_cells : Try.prog.cellsOf 53 = 3 := by kernel_rfl
theorem k3_some {r k s : Int} (hr : wfi r) (hk : wfi k) (hs : wfi s) : ∃ kl, keyOf Try.prog 53 (keyV r k s) = some kl := by
  unfold wfi at hr hk hs
  obtain ⟨m, hm⟩ := cnt_types
  have hu := Try.underlying53
  refine ⟨.string (keyBytes [.int .i64 r, .int .i64 k, .int .i64 s]), ?_⟩
  unfold keyOf keyV
  simp only [hu]
  rw [if_pos (by simp [k3_keyType, Value.formed, hu, k3_cells]), hm]
  unfold Program.keyLits
  simp only [hu, Value.cells]
  rw [if_pos (by rw [k3_cells]; rfl), show List.range 3 = [0, 1, 2] from rfl]
  simp [List.mapM_cons, Program.keyLits, Try.underlying3, cnt_cells1, hr, hk, hs]
theorem mapM_some {α β : Type} {f : α → Option β} : ∀ (l : List α), (∀ x ∈ l, ∃ y, f x = some y) → ∃ ys, l.mapM f = some ys
  | [], _ => ⟨[], rfl⟩
  | a :: l, h => by
    obtain ⟨y, hy⟩ := h a List.mem_cons_self
    obtain ⟨ys, hys⟩ := mapM_some l (fun x hx => h x (List.mem_cons_of_mem _ hx))
    exact ⟨y :: ys, by rw [List.mapM_cons, hy, hys]; rfl⟩
theorem ki_row : (24 : TypeId) < Try.prog.types.size := of_decide_eq_true (by kernel_rfl)
theorem ki_wide : (match Try.prog.underlying 24 with | some (.array _ _) | some (.struct _) => true | _ => false) = true := by kernel_rfl
set_option maxRecDepth 100000 in
theorem ki_law : Keyed Try.prog 24 := Keyed.of_law (deep_law_laid cnt_laid (m := 2) (by omega) ki_row (by kernel_rfl) ki_wide)
theorem ki_keyType : Try.prog.keyType 24 = true := by kernel_rfl
theorem ki_cells : Try.prog.cellsOf 24 = 32 := by kernel_rfl
theorem ki_cells1 : Try.prog.cellsOf 5 = 1 := by kernel_rfl
theorem u8_wf (b : UInt8) : (Lit.int .u8 (b.toNat : Int)).wf = true := by
  have := b.toNat_lt
  simp [Lit.wf, IntKind.min, IntKind.max, IntKind.signed, IntKind.bits]
  omega
theorem ki_some {l : List UInt8} (h : IdOk l) : ∃ kl, keyOf Try.prog 24 (idv l) = some kl := by
  obtain ⟨m, hm⟩ := cnt_types
  have hu := Try.underlying24
  have hlen : (idv l).cells.toList.length = 32 := by
    rw [idv_cells, List.length_map]
    exact h
  have hform : (idv l).formed Try.prog 24 = true := by
    have hsz : (idv l).cells.size = 32 := by rw [← Array.length_toList]; exact hlen
    rw [idv_cells] at hsz
    unfold Value.formed idv
    simp only [hu]
    rw [hsz, ki_cells]
    rfl
  unfold keyOf
  simp only [hu]
  rw [if_pos (by rw [ki_keyType, hform]; rfl), hm]
  unfold Program.keyLits
  simp only [hu]
  rw [if_pos (by rw [ki_cells]; exact hlen)]
  obtain ⟨ys, hys⟩ := mapM_some (f := fun i => Try.prog.keyLits (m + 1) 5 (((idv l).cells.toList.drop (i * Try.prog.cellsOf 5)).take (Try.prog.cellsOf 5))) (List.range 32) (fun i hi => by
    have hi' := List.mem_range.1 hi
    refine ⟨[.int .u8 ((l.getD i 0).toNat : Int)], ?_⟩
    have e : ((idv l).cells.toList.drop (i * Try.prog.cellsOf 5)).take (Try.prog.cellsOf 5) = [.int .u8 ((l.getD i 0).toNat : Int)] := by
      rw [ki_cells1, Nat.mul_one, idv_cells]
      unfold IdOk at h
      show ((l.map Extern.Stop.cell).drop i).take 1 = _
      rw [← List.map_drop, ← List.map_take, List.drop_eq_getElem_cons (by omega), List.take_succ_cons, List.take_zero, List.map_cons, List.map_nil, List.getD_eq_getElem?_getD, List.getElem?_eq_getElem (by omega)]
      rfl
    show Try.prog.keyLits (m + 1) 5 _ = _
    rw [e]
    unfold Program.keyLits
    simp only [Try.underlying5]
    rw [if_pos ⟨trivial, u8_wf _⟩])
  rw [hys]
  exact ⟨_, rfl⟩
end Go.Proofs.Ytclhfokflagopaa
