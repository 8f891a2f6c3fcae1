/-
  Rows of whole numbers that came in; what stays true of timers as the clock goes on. No condition.
-/
import Derived.Test.YtgcpiaogodgphaaTmrRuns
namespace Go.Proofs.Ytgcpiaogodgphaa
open Go Go.RowKit

def RdN (W : World) (v : Value) (l : List Int) : Prop :=
  ∃ A c, v = .slice A l.length c ∧ l.length ≤ maxLen ∧ (0 < l.length → ∃ ad : Addr, A = some ad ∧ ad.block < W.heap.size ∧ ∀ j n, l[j]? = some n → W.cell? (ad.add j) = some (.int .i64 n))
theorem RdN.here {W : World} {v : Value} {l : List Int} (h : RdN W v l) {j : Nat} {n : Int} (hj : l[j]? = some n) : ∃ ad c, v = .slice (some ad) l.length c ∧ ∀ W', Below W.heap.size W W' → W'.cell? (ad.add j) = some (.int .i64 n) := by
  have hlt := (List.getElem?_eq_some_iff.1 hj).1
  obtain ⟨A, c, rfl, h2, h3⟩ := h
  obtain ⟨ad, rfl, q2, q3⟩ := h3 (by omega)
  exact ⟨ad, c, rfl, fun W' hb => (hb.cell (p := ad.add j) (by rw [block_add]; exact q2)).trans (q3 j n hj)⟩
theorem OkL.step {now : Int} {l : List (List Int)} (h : OkL now l) (hn : now + 1 ≤ 1000000) : OkL (now + 1) l := ⟨hn, fun x hx => ⟨(h.2 x hx).1, by have := (h.2 x hx).2; omega⟩⟩
theorem OkL.keep {now m : Int} {l : List (List Int)} (h : OkL now l) : OkL now (keepL m l) := ⟨h.1, fun x hx => h.2 x (List.mem_filter.1 hx).1⟩
theorem OkL.nil {now : Int} (h : now ≤ 1000000) : OkL now [] := ⟨h, fun x hx => by simp at hx⟩
theorem OkL.more {now : Int} {l : List (List Int)} (h : OkL now l) (h0 : 0 ≤ now) (r s : Int) : OkL now (l ++ [[r, s, now]]) := ⟨h.1, fun x hx => by
  rcases List.mem_append.1 hx with hx | hx
  · exact h.2 x hx
  · rw [List.mem_singleton] at hx
    subst hx
    simp
    exact h0⟩
theorem grown_base {g : Nat} {W W1 W2 : World} (hb : Below W.heap.size W W1) (hg : W1.grownBy W2 (some g)) (h : W.heap.size ≤ g) : Below W.heap.size W W2 := hb.grown hg hb.size (fun i hi => by have := Option.some.inj hi; omega)
theorem TimerAt.len40 {W : World} {B : Nat} {now : Int} {l : List (List Int)} (h : TimerAt W B now l) : l.length ≤ 40 := by
  obtain ⟨F, _, _, _, h2, _⟩ := h
  exact h2
end Go.Proofs.Ytgcpiaogodgphaa
