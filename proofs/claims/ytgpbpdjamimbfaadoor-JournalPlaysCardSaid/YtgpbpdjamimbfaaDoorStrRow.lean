/-
  Rows of texts, a cell each: in memory, appended to. No condition.
-/
import Derived.Test.YtgpbpdjamimbfaaDoorRowC
namespace Go.Proofs.YtgpbpdjamimbfaaDoor
open Go Go.RowKit

/-- Texts, a cell each. -/
def strC (l : List (List UInt8)) : List (List Value) := l.map fun b => [.string ⟨b.toArray⟩]
theorem elStr : ElC Tryd.prog 9 35 1 16 := ⟨Tryd.underlying35, by kernel_rfl, by omega, by omega⟩
theorem elsStr (l : List (List UInt8)) : ElsC 1 (strC l) := fun x hx => by
  obtain ⟨b, _, rfl⟩ := List.mem_map.1 hx
  exact ⟨rfl, fun u hu => by rw [List.mem_singleton] at hu; rw [hu]; rfl⟩
theorem strC_length (l : List (List UInt8)) : (strC l).length = l.length := by simp [strC]
theorem strC_append (a b : List (List UInt8)) : strC (a ++ b) = strC a ++ strC b := by simp [strC]
/-- A text appended onto a row of texts of the call's own. -/
theorem app_text {B : Nat} {w : World} (hB : B ≤ w.heap.size) {v : Value} {n : Nat} {l : List (List UInt8)} (hown : w.ownsRow B 9 1 v n (strC l).flatten) (b : List UInt8) (hn : n < 900000) :
    ∃ v' w', (Builtin.append_ #[35, 35] 35 #[v, .slice (some ⟨w.heap.size, 0, none⟩) 1 1]).run Tryd.prog (w.alloc (.cells #[.string ⟨b.toArray⟩] 9)) = .ok v' w' ∧ w'.ownsRow B 9 1 v' (n + 1) (strC (l ++ [b])).flatten ∧ w.grownBy w' v.ownBlock ∧ (v'.ownBlock = v.ownBlock ∨ ∃ g, v'.ownBlock = some g ∧ w.heap.size ≤ g) := by
  have hb0 : Below w.heap.size w (w.alloc (.cells #[.string ⟨b.toArray⟩] 9)) := (Below.refl _ _).alloc (Nat.le_refl _) _
  have hr : RdC 1 (w.alloc (.cells #[.string ⟨b.toArray⟩] 9)) (fun i => i = w.heap.size) (.slice (some ⟨w.heap.size, 0, none⟩) 1 1) (strC [b]) := rdC_one (ty := 9) (x := [.string ⟨b.toArray⟩]) (Blk.newAt _ _ rfl rfl) (elsStr [b])
  obtain ⟨v', w', hrun, h1, h2, h3⟩ := app_own elStr (Nat.le_trans hB hb0.size) (ownsRow_kept hown hb0) hr (by omega)
  rw [← strC_append] at h1
  exact ⟨v', w', hrun, h1, (World.grownBy_alloc w _ _).trans h2, h3.imp id fun h => ⟨_, h, by simp⟩⟩
theorem str_here {B n c j : Nat} {w : World} {A : Option Addr} {ws : List (List UInt8)} {b : List UInt8} (h : w.ownsRow B 9 1 (.slice A n c) n (strC ws).flatten) (hb : ws[j]? = some b) : ∃ ad, A = some ad ∧ w.cell? (ad.add j) = some (.string ⟨b.toArray⟩) := by
  have hg := rowL_get (k := 1) (elsStr ws).len (j := j) (x := [.string ⟨b.toArray⟩]) (by unfold strC; rw [List.getElem?_map, hb]; rfl) (i := 0) (by omega)
  rw [Nat.one_mul, Nat.add_zero] at hg
  rcases h.2 with ⟨hv, h0⟩ | ⟨g, cap, cur, hv, _⟩
  · have := h.1
    rw [h0, Nat.zero_mul] at this
    rw [List.eq_nil_of_length_eq_zero this] at hg
    simp at hg
  · obtain ⟨rfl, -, rfl⟩ := Value.slice.inj hv
    exact ⟨_, rfl, h.cells (g := g) rfl j _ hg⟩
end Go.Proofs.YtgpbpdjamimbfaaDoor
