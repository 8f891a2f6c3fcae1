/-
  A great frame as a function from places to values, for a loop's relation: no letters for what nobody reads. No condition.
-/
import Derived.Test.YtgpbpdjamimbfaaDoorBlk
import Derived.WalkKit
import Derived.Deep.LoopGhost
import Derived.Laws.AppendOwn
namespace Go.Proofs.YtgpbpdjamimbfaaDoor
open Go Go.RowKit

theorem arr_list (n : Nat) (f : Nat → Value) : arr n f = ((List.range n).map f).toArray := by
  unfold arr
  apply Array.ext_getElem?
  intro i
  by_cases h : i < n <;> simp [h]
theorem arr_getD (xs : Array Value) {n : Nat} (h : xs.size = n) : xs = arr n (fun i => xs.getD i undef) :=
  arr_of n xs _ h fun i hi => by simp [Array.getD_eq_getD_getElem?, Array.getElem?_eq_getElem (show i < xs.size by omega)]
/-- A round's end: the relation at a smaller number, of whatever frame. -/
def Next (N : Nat) (I : Nat → (Nat → Value) → World → Prop) (n : Nat) (a' : Act) (w' : World) : Prop := ∃ n', n' < n ∧ ∃ f', a' = ⟨arr N f', []⟩ ∧ I n' f' w'
theorem wp_loop_frame {P : Program} {Q : Exit → Act → World → Prop} {c : Code} {N : Nat} {w : World} (I : Nat → (Nat → Value) → World → Prop) (n₀ : Nat) (f : Nat → Value) (h₀ : I n₀ f w)
    (round : ∀ n f w, I n f w → c.wp P (Exit.then (Next N I n) Q) ⟨arr N f, []⟩ w) : (Code.loop c).wp P Q ⟨arr N f, []⟩ w :=
  wp_loop_ghost (fun n a w => ∃ f, a = ⟨arr N f, []⟩ ∧ I n f w) n₀ ⟨f, rfl, h₀⟩ fun n a w ⟨f', ha, hI⟩ => by subst ha; exact round n f' w hI
theorem frame_end {N : Nat} {xs : Array Value} (hs : xs.size = N) {n : Nat} (n' : Nat) (hn : n' < n) {I : Nat → (Nat → Value) → World → Prop} {w' : World} (h : I n' (fun i => xs.getD i undef) w') :
    Next N I n ⟨xs, []⟩ w' := ⟨n', hn, _, by rw [← arr_getD xs hs], h⟩
theorem exit_end {N : Nat} {xs : Array Value} (hs : xs.size = N) {Q : Act → World → Prop} {X : (Nat → Value) → World → Prop} (hexit : ∀ f' w', X f' w' → Q ⟨arr N f', []⟩ w') {w' : World} (h : X (fun i => xs.getD i undef) w') : Q ⟨xs, []⟩ w' := by
  have := hexit _ w' h
  rwa [← arr_getD xs hs] at this
/-- The loops of a code, each ahead of those within it. -/
def loopsIn : Code → List Code
  | .loop c => c :: loopsIn c
  | .seq a b => loopsIn a ++ loopsIn b
  | .block _ c => loopsIn c
  | .scope c => loopsIn c
  | .cond _ a b => loopsIn a ++ loopsIn b
  | _ => []
theorem wp_draws {P : Program} {Q : Exit → Act → World → Prop} {c : Code} {a : Act} {w : World} {m : Nat} (h : ∀ w3, (∃ m, w.drewN m = w3) → c.wp P Q a w3) : c.wp P Q a (w.drewN m) := h _ ⟨m, rfl⟩
theorem only_drewN {a w : World} {row : Option Nat} (h : a.grownBy w row) (n : Nat) : a.grownBy (w.drewN n) row := ⟨h.os, h.tape, h.output, h.size, h.block⟩
theorem only_drew {a w : World} {row : Option Nat} (h : a.grownBy w row) : a.grownBy w.drew row := ⟨h.os, h.tape, h.output, h.size, h.block⟩
theorem only_setCell {a w : World} {g : Nat} (h : a.grownBy w (some g)) {p : Addr} (hp : p.block = g ∨ a.heap.size ≤ p.block) (u : Value) : a.grownBy (w.setCell p u) (some g) :=
  ⟨h.os, h.tape, h.output, by simpa [World.setCell] using h.size, fun i hi hne => (Below.heap_setCell w p u i (by
    rintro rfl
    rcases hp with hp | hp
    · exact hne (by rw [hp])
    · omega)).trans (h.block i hi hne)⟩
theorem only_of_below {a w : World} (h : Below a.heap.size a w) (row : Option Nat) : a.grownBy w row := ⟨h.os, h.tape, h.output, h.size, fun i hi _ => h.block i hi⟩
set_option maxRecDepth 100000 in
theorem lit272 (f : Nat → Value) : arr 272 f = #[f 0, f 1, f 2, f 3, f 4, f 5, f 6, f 7, f 8, f 9, f 10, f 11, f 12, f 13, f 14, f 15, f 16, f 17, f 18, f 19, f 20, f 21, f 22, f 23, f 24, f 25, f 26, f 27, f 28, f 29, f 30, f 31, f 32, f 33, f 34, f 35, f 36, f 37, f 38, f 39, f 40, f 41, f 42, f 43, f 44, f 45, f 46, f 47, f 48, f 49, f 50, f 51, f 52, f 53, f 54, f 55, f 56, f 57, f 58, f 59, f 60, f 61, f 62, f 63, f 64, f 65, f 66, f 67, f 68, f 69, f 70, f 71, f 72, f 73, f 74, f 75, f 76, f 77, f 78, f 79, f 80, f 81, f 82, f 83, f 84, f 85, f 86, f 87, f 88, f 89, f 90, f 91, f 92, f 93, f 94, f 95, f 96, f 97, f 98, f 99, f 100, f 101, f 102, f 103, f 104, f 105, f 106, f 107, f 108, f 109, f 110, f 111, f 112, f 113, f 114, f 115, f 116, f 117, f 118, f 119, f 120, f 121, f 122, f 123, f 124, f 125, f 126, f 127, f 128, f 129, f 130, f 131, f 132, f 133, f 134, f 135, f 136, f 137, f 138, f 139, f 140, f 141, f 142, f 143, f 144, f 145, f 146, f 147, f 148, f 149, f 150, f 151, f 152, f 153, f 154, f 155, f 156, f 157, f 158, f 159, f 160, f 161, f 162, f 163, f 164, f 165, f 166, f 167, f 168, f 169, f 170, f 171, f 172, f 173, f 174, f 175, f 176, f 177, f 178, f 179, f 180, f 181, f 182, f 183, f 184, f 185, f 186, f 187, f 188, f 189, f 190, f 191, f 192, f 193, f 194, f 195, f 196, f 197, f 198, f 199, f 200, f 201, f 202, f 203, f 204, f 205, f 206, f 207, f 208, f 209, f 210, f 211, f 212, f 213, f 214, f 215, f 216, f 217, f 218, f 219, f 220, f 221, f 222, f 223, f 224, f 225, f 226, f 227, f 228, f 229, f 230, f 231, f 232, f 233, f 234, f 235, f 236, f 237, f 238, f 239, f 240, f 241, f 242, f 243, f 244, f 245, f 246, f 247, f 248, f 249, f 250, f 251, f 252, f 253, f 254, f 255, f 256, f 257, f 258, f 259, f 260, f 261, f 262, f 263, f 264, f 265, f 266, f 267, f 268, f 269, f 270, f 271] := by
  rw [arr_list, show List.range 272 = [0, 1, 2, 3, 4, 5, 6, 7, 8, 9, 10, 11, 12, 13, 14, 15, 16, 17, 18, 19, 20, 21, 22, 23, 24, 25, 26, 27, 28, 29, 30, 31, 32, 33, 34, 35, 36, 37, 38, 39, 40, 41, 42, 43, 44, 45, 46, 47, 48, 49, 50, 51, 52, 53, 54, 55, 56, 57, 58, 59, 60, 61, 62, 63, 64, 65, 66, 67, 68, 69, 70, 71, 72, 73, 74, 75, 76, 77, 78, 79, 80, 81, 82, 83, 84, 85, 86, 87, 88, 89, 90, 91, 92, 93, 94, 95, 96, 97, 98, 99, 100, 101, 102, 103, 104, 105, 106, 107, 108, 109, 110, 111, 112, 113, 114, 115, 116, 117, 118, 119, 120, 121, 122, 123, 124, 125, 126, 127, 128, 129, 130, 131, 132, 133, 134, 135, 136, 137, 138, 139, 140, 141, 142, 143, 144, 145, 146, 147, 148, 149, 150, 151, 152, 153, 154, 155, 156, 157, 158, 159, 160, 161, 162, 163, 164, 165, 166, 167, 168, 169, 170, 171, 172, 173, 174, 175, 176, 177, 178, 179, 180, 181, 182, 183, 184, 185, 186, 187, 188, 189, 190, 191, 192, 193, 194, 195, 196, 197, 198, 199, 200, 201, 202, 203, 204, 205, 206, 207, 208, 209, 210, 211, 212, 213, 214, 215, 216, 217, 218, 219, 220, 221, 222, 223, 224, 225, 226, 227, 228, 229, 230, 231, 232, 233, 234, 235, 236, 237, 238, 239, 240, 241, 242, 243, 244, 245, 246, 247, 248, 249, 250, 251, 252, 253, 254, 255, 256, 257, 258, 259, 260, 261, 262, 263, 264, 265, 266, 267, 268, 269, 270, 271] from by kernel_rfl]
  rfl
end Go.Proofs.YtgpbpdjamimbfaaDoor
