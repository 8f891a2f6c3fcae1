/-
  Several ways to agreement at the beginning. No condition.
-/
import Derived.Test.YtbgojlcciealiaaRndTake
import Derived.Test.YtbgojlcciealiaaRndMRec
namespace Go.Proofs.Ytbgojlcciealiaa
open Go Go.RowKit Go.Maps

theorem info_ptr : (Try.prog.info? 62).map (fun i => (i.zero, i.size, i.bytes)) = some (some (.pointer none), 1, 8) := by kernel_rfl
/-- An append of one pointer. -/
theorem app_ptr {B : Nat} {w : World} (hB : B ≤ w.heap.size) {v : Value} {n : Nat} {xs : List Value} (hown : w.ownsRow B 62 1 v n xs) (x : Value) (hx : x.oneCell' = true) {g0 : Nat} (hg0 : Blk w g0 62 #[x]) (hn : n ≤ 1000) :
    ∃ v' w', (Builtin.append_ #[79, 79] 79 #[v, .slice (some ⟨g0, 0, none⟩) 1 1]).run Try.prog w = .ok v' w' ∧
      w'.ownsRow B 62 1 v' (n + 1) (xs ++ [x]) ∧ w.grownBy w' v.ownBlock ∧ (v'.ownBlock = v.ownBlock ∨ v'.ownBlock = some w.heap.size) := by
  obtain ⟨i0, hi, hz0, hz1, hz2⟩ := info_parts info_ptr
  obtain ⟨v', w', hrun, hown', hgr, _, hbl⟩ := run_append_own_at (P := Try.prog) w B 79 79 62 i0 (.pointer none) 1 8 Try.underlying79 hi hz0 hz1 hz2 rfl (by omega) v n xs hown ⟨g0, 0, none⟩ 1 1 [x] rfl
    (fun j u hu => by
      rcases j with _ | j
      · cases hu
        rw [show (⟨g0, 0, none⟩ : Addr).add 0 = ⟨g0, 0, none⟩ from rfl, hg0.cell]; rfl
      · cases hu) (fun u hu => (List.mem_singleton.1 hu) ▸ hx) (by unfold maxLen; omega) (by omega) hB
  exact ⟨v', w', hrun, hown', hgr, hbl⟩
def kidB (u : UInt8) : List UInt8 := u :: List.replicate 31 0
theorem kidB_ok (u : UInt8) : IdOk (kidB u) := by unfold IdOk kidB; simp
set_option maxRecDepth 100000 in
theorem kidB_built (u : UInt8) : Try.prog.built 24 [(0, .int .u8 (u.toNat : Int))] = some (idC (kidB u)) := by kernel_rfl
theorem info_idH : (Try.prog.info? 24).map (fun i => (i.zero, i.size, i.bytes)) = some (some (.agg (Array.replicate 32 (.int .u8 0))), 32, 32) := by kernel_rfl
theorem run_mk_idsH (n : Nat) (hn : n ≤ 1000) (w : World) : (Instr.makeSlice 49 (.int .i64 (n : Int)) (.int .i64 (n : Int))).run Try.prog w = .ok (.slice (some ⟨w.heap.size, 0, none⟩) n n) (w.alloc (.cells (arr (32 * n) fun _ => .int .u8 0) 24)) := by
  obtain ⟨i0, hi, hz0, hz1, hz2⟩ := info_parts info_idH
  have h := run_make (P := Try.prog) w 49 24 i0 (.agg (Array.replicate 32 (.int .u8 0))) Try.underlying49 hi hz0 .i64 .i64 n n (by omega) (Int.le_refl _) (by rw [hz2]; omega) (by omega)
  simp only [Int.toNat_natCast] at h
  rw [h]
  have e : madeCells (Value.agg (Array.replicate 32 (.int .u8 0))).cells (n * i0.size) = arr (32 * n) fun _ => .int .u8 0 := by
    rw [hz1, Nat.mul_comm]
    refine Array.ext_getElem? fun i => ?_
    rw [arr_get]
    by_cases hi : i < 32 * n
    · rw [if_pos hi]
      have hm : i % 32 < 32 := Nat.mod_lt _ (by omega)
      rw [Array.getElem?_eq_getElem (by simp [size_madeCells]; exact hi)]
      simp [madeCells, Value.cells, hm]
    · rw [if_neg hi, Array.getElem?_eq_none (by simp [size_madeCells]; omega)]
  rw [e]
theorem ds_zero (n : Nat) : arr (32 * n) (fun _ => Value.int .u8 0) = arr (32 * n) (dsF (List.replicate n zeroId)) := by
  refine Array.ext_getElem? fun j => ?_
  rw [arr_get, arr_get]
  by_cases hj : j < 32 * n
  · rw [if_pos hj, if_pos hj]
    have hok : ∀ x ∈ List.replicate n zeroId, IdOk x := fun x hx => by rw [(List.mem_replicate.1 hx).2]; exact zeroId_ok
    have hq : j / 32 < n := by omega
    have hr : j % 32 < 32 := Nat.mod_lt _ (by omega)
    have hd : 32 * (j / 32) + j % 32 = j := by omega
    have hg : (List.replicate n zeroId)[j / 32]? = some zeroId := by rw [List.getElem?_replicate, if_pos hq]
    have h2 := idsC_get hok hg hr
    rw [hd] at h2
    unfold dsF
    rw [List.getD_eq_getElem?_getD, h2]
    unfold idL zeroId
    rw [List.getElem?_map, List.getElem?_replicate, if_pos hr]
    rfl
  · rw [if_neg hj, if_neg hj]
def ptrsOf (l : List RB) : List Value := l.map fun x => .pointer (some ⟨x.B, 0, none⟩)
theorem out_add {l : List RB} {g : Nat} (h : Out l g) {x : RB} (hx : ¬ x.has g) : Out (l ++ [x]) g := fun i y hy => by
  by_cases hi : i < l.length
  · rw [List.getElem?_append_left hi] at hy
    exact h i y hy
  · rw [List.getElem?_append_right (by omega)] at hy
    by_cases he : i = l.length
    · rw [he, Nat.sub_self] at hy
      obtain rfl := Option.some.inj hy
      exact hx
    · rw [List.getElem?_eq_none (by simp; omega)] at hy
      cases hy
theorem ha_new (va vm vd : Value) (H : Nat) : #[va, .int .i64 (H : Int), vm, vd] = arr 4 (haF va vm vd H) := by
  refine Array.ext_getElem? fun i => ?_
  rw [arr_get]
  by_cases hi : i < 4
  · rw [if_pos hi]
    have : i = 0 ∨ i = 1 ∨ i = 2 ∨ i = 3 := by omega
    rcases this with rfl | rfl | rfl | rfl <;> rfl
  · rw [if_neg hi, Array.getElem?_eq_none (by simp; omega)]
theorem ha_put0 (va vm vd v : Value) (H : Nat) : arr 4 (putW (haF va vm vd H) 0 [v]) = arr 4 (haF v vm vd H) := by
  refine Array.ext_getElem? fun i => ?_
  rw [arr_get, arr_get]
  by_cases hi : i < 4
  · rw [if_pos hi, if_pos hi]
    have : i = 0 ∨ i = 1 ∨ i = 2 ∨ i = 3 := by omega
    rcases this with rfl | rfl | rfl | rfl <;> rfl
  · rw [if_neg hi, if_neg hi]
end Go.Proofs.Ytbgojlcciealiaa
