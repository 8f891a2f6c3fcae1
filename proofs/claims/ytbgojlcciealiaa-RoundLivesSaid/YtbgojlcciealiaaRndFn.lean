/-
  One's way to agreement: the leaf functions. No condition.
-/
import Derived.Test.YtbgojlcciealiaaRndKit
namespace Go.Proofs.Ytbgojlcciealiaa
open Go Go.RowKit Go.Maps

theorem arr_ofG {xs : Array Value} {n : Nat} (h : xs.size = n) : xs = arr n (fun i => xs.getD i undef) := by
  refine Array.ext_getElem? fun i => ?_
  rw [arr_get]
  by_cases hi : i < n
  · rw [if_pos hi, Array.getElem?_eq_getElem (by omega)]
    simp [Array.getD, h, hi]
  · rw [if_neg hi, Array.getElem?_eq_none (by omega)]
/-- An ID stored into a block of its own. -/
theorem oper_store_idR {o : Oper} {a : Act} {w : World} {K : Act → World → Prop} {Q : Exit → Act → World → Prop} (x y : Operand) (ho : o.op = .store 24 x y) (g : Nat) (l : List UInt8) (hx : a.eval x = .pointer (some ⟨g, 0, none⟩)) (hy : a.eval y = idv l) (hl : IdOk l)
    (t : TypeId) (old : Array Value) (hg : Blk w g t old) (hold : old.size = 32) (h : ∀ w', Blk w' g t (idC l) → w.grownBy w' (some g) → w'.heap.size = w.heap.size → K (a.put o.dst undef) w') : Oper.wp Try.prog o a w K Q := by
  rw [arr_ofG hold] at hg
  have h32 : (idL l).length = 32 := idL_length hl
  refine oper_store_at 24 x y ho g 0 32 _ (idL l) (fun u hu => ?_) hx hy t hg (by rw [h32]; kernel_rfl) (by omega) ?_
  · obtain ⟨b, _, rfl⟩ := List.mem_map.1 hu
    rfl
  · intro w' hw
    subst hw
    have e : arr 32 (putW (fun i => old.getD i undef) 0 (idL l)) = idC l := by
      refine Array.ext_getElem? fun i => ?_
      rw [arr_get]
      unfold putW idC
      rw [h32, List.getElem?_toArray]
      by_cases hi : i < 32
      · rw [if_pos hi, if_pos (by omega), Nat.sub_zero, List.getD_eq_getElem?_getD, show l.map Extern.Stop.cell = idL l from rfl, List.getElem?_eq_getElem (by omega)]
        rfl
      · rw [if_neg hi, List.getElem?_eq_none (by rw [show l.map Extern.Stop.cell = idL l from rfl]; omega)]
    rw [e]
    exact h _ (hg.setRow _) ⟨rfl, rfl, rfl, by rw [size_setRow]; exact Nat.le_refl _, fun i _ hn => setRow_other w g i _ (fun e => hn (e ▸ rfl))⟩ (size_setRow _ _ _)
set_option maxRecDepth 100000 in
set_option maxHeartbeats 4000000 in
theorem where_any {W : World} {B C M n : Nat} {kv : Value} {s : RdS} (h : RoundAt W B C M n kv s) : Calls Try.prog 40 #[.pointer (some ⟨B, 0, none⟩)] W fun e w' => e = .returned (.tuple #[.int .i64 s.round, .int .i64 s.step]) ∧ Below W.heap.size W w' := by
  have HR := Lib.hid h
  clear h
  go_enter Try.func40, Try.ntmps40
  go_upto_region 1 with fail
  refine wp_region_held_drew (S := fun W' => RoundAt W' B C M n kv s) (by kernel_rfl) ?_ (fun hHeld => ?_)
  · exact (HR.out.below (Below.refl _ W).drew)
  refine tkH (v := ?_) 0 ⟨some 4, _, _, _, _, _⟩ rfl (Or.inl ⟨by rfl, ?_⟩) ?_
  rotate_left
  · intro w hSw; (try dsimp only at hSw); go_simp; try (with_reducible rfl)
  try simp only [Act.put, nz1, nz2, nz3]
  refine tkH (v := ?_) 1 ⟨some 5, _, _, _, _, _⟩ rfl (Or.inl ⟨by rfl, ?_⟩) ?_
  rotate_left
  · intro w hSw; (try dsimp only at hSw); go_simp; try (with_reducible rfl)
  try simp only [Act.put, nz1, nz2, nz3]
  refine tkH (v := ?_) 2 ⟨some 6, _, _, _, _, _⟩ rfl (Or.inl ⟨by rfl, ?_⟩) ?_
  rotate_left
  · intro w hSw; (try dsimp only at hSw); go_simp; try (with_reducible rfl)
  try simp only [Act.put, nz1, nz2, nz3]
  refine tkH (v := (.int .i64 s.round)) 3 ⟨some 7, _, _, _, _, _⟩ rfl (yields_one (by rfl) 3 _ rfl ⟨B, 3, none⟩ rfl _ _ (fun W' hS => hS.cell (i := 3) (by omega)) Try.underlying3 rfl) ?_
  try simp only [Act.put, nz1, nz2, nz3]
  refine tkH (v := ?_) 4 ⟨some 8, _, _, _, _, _⟩ rfl (Or.inl ⟨by rfl, ?_⟩) ?_
  rotate_left
  · intro w hSw; (try dsimp only at hSw); go_simp; try (with_reducible rfl)
  try simp only [Act.put, nz1, nz2, nz3]
  refine tkH (v := ?_) 5 ⟨some 9, _, _, _, _, _⟩ rfl (Or.inl ⟨by rfl, ?_⟩) ?_
  rotate_left
  · intro w hSw; (try dsimp only at hSw); go_simp; try (with_reducible rfl)
  try simp only [Act.put, nz1, nz2, nz3]
  refine tkH (v := ?_) 6 ⟨some 10, _, _, _, _, _⟩ rfl (Or.inl ⟨by rfl, ?_⟩) ?_
  rotate_left
  · intro w hSw; (try dsimp only at hSw); go_simp; try (with_reducible rfl)
  try simp only [Act.put, nz1, nz2, nz3]
  refine tkH (v := (.int .i64 s.step)) 7 ⟨some 11, _, _, _, _, _⟩ rfl (yields_one (by rfl) 3 _ rfl ⟨B, 4, none⟩ rfl _ _ (fun W' hS => hS.cell (i := 4) (by omega)) Try.underlying3 rfl) ?_
  try simp only [Act.put, nz1, nz2, nz3]
  refine tkH (v := ?_) 8 ⟨some 2, _, _, _, _, _⟩ rfl (Or.inl ⟨by rfl, ?_⟩) ?_
  rotate_left
  · intro w hSw; (try dsimp only at hSw); go_simp; try (with_reducible rfl)
  try simp only [Act.put, nz1, nz2, nz3]
  refine tkH (v := ?_) 9 ⟨some 3, _, _, _, _, _⟩ rfl (Or.inl ⟨by rfl, ?_⟩) ?_
  rotate_left
  · intro w hSw; (try dsimp only at hSw); go_simp; try (with_reducible rfl)
  try simp only [Act.put, nz1, nz2, nz3]
  refine wpAnyH_done (by kernel_rfl) ?_ _
  go_wp2_with fail
  go_ret2
  exact ⟨rfl, (Below.refl _ W).drew⟩
end Go.Proofs.Ytbgojlcciealiaa
