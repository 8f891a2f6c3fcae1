/-
  ShortRoots: of every cut, list and place, in whatever memory in which the tables lie. No condition.
-/
import Derived.Test.YtlnapnbccojohaaDoorShRefW
import Derived.Test.YtlnapnbccojohaaDoorShFew
import Derived.Test.YtlnapnbccojohaaDoorShLeads
import Derived.Test.YtlnapnbccojohaaDoorShGuard
namespace Go.Proofs.YtlnapnbccojohaaDoor
open Go Go.RowKit Go.Shelf TreeM

theorem OutAt.rdP {W : World} {B : Nat} {v : Value} {ts : List (List UInt8)} (h : OutAt W B v ts) (hB : B ≤ W.heap.size) : ∃ A c, v = .slice A ts.length c ∧ ts.length ≤ c ∧ RdP W (fun b => b < W.heap.size) A ts := by
  obtain ⟨vs, h1, h3⟩ := h
  obtain ⟨A, c, rfl, hc⟩ := own_len h1
  refine ⟨A, c, rfl, hc, fun k hk => ?_⟩
  obtain ⟨u, hu, hr⟩ := h3 k hk
  rcases h1.2 with h0 | ⟨g, cap, cur, e, hB', hblk, hle, _, hsz, htk⟩
  · have := h0.1
    injection this with _ e
    omega
  · injection e with e1 e2 e3
    subst e1
    refine ⟨⟨g, 0, none⟩, u, rfl, Blk.lt hblk, ?_, hr.mono fun b hb => Nat.lt_of_lt_of_le hb hB⟩
    rw [add_zero_block, Blk.cell hblk]
    rw [← htk, List.getElem?_take] at hu
    split at hu
    · rwa [Array.getElem?_toList] at hu
    · cases hu
theorem TxtRow.rdS {W : World} {B : Nat} {v : Value} {ts : List (List UInt8)} (h : TxtRow W B v ts) : ∃ A c, v = .slice A ts.length c ∧ ts.length ≤ c ∧ RdS W A ts := by
  obtain ⟨A, c, rfl, hc⟩ := own_len h
  refine ⟨A, c, rfl, hc, fun k hk => ?_⟩
  rcases h.2 with h0 | ⟨g, cap, cur, e, hB', hblk, hle, _, hsz, htk⟩
  · have := h0.1
    injection this with _ e
    omega
  · injection e with e1 e2 e3
    subst e1
    refine ⟨⟨g, 0, none⟩, rfl, Blk.lt hblk, ?_⟩
    rw [add_zero_block, Blk.cell hblk]
    have hu : (ts.map fun t => Value.string ⟨t.toArray⟩)[k]? = some (.string ⟨(ts.getD k []).toArray⟩) := by
      rw [List.getElem?_map, List.getD_eq_getElem?_getD, List.getElem?_eq_getElem hk]
      rfl
    rw [← htk, List.getElem?_take] at hu
    split at hu
    · rwa [Array.getElem?_toList] at hu
    · cases hu
theorem sh_own_rd {w : World} {B n : Nat} {v : Value} {l : List D} (h : w.ownsRow B 23 32 v n (idCells l)) (hm : n ≤ 4398046511104) : RdI w (fun b => b < w.heap.size) v l := (own_rd h hm).mono fun _ hb => hb.2.2
end Go.Proofs.YtlnapnbccojohaaDoor
