/-
  Timers: what they lie in; Delay, Set, Len, Now, Clear. No condition.
-/
import Derived.Test.YtgcpiaogodgphaaTmrKit
import Derived.Test.YtgcpiaogodgphaaProg
import Derived.WalkKit
import Derived.Deep.RegionHeld3
import Derived.Deep.Cut
import Derived.Deep.CutRange
import Derived.Deep.RegionLaw
namespace Go.Proofs.Ytgcpiaogodgphaa
open Go Go.RowKit

def dly (n : Int) : Int := 3 + 2 * min (max n 0) 1000
theorem dly_low (n : Int) : 3 ≤ dly n ∧ dly n ≤ 2003 := by unfold dly; omega
/-- A block of whole numbers. -/
def intN (N : Nat) (F : Nat → Int) : Array Value := arr N fun i => .int .i64 (F i)
theorem intN_size (N : Nat) (F : Nat → Int) : (intN N F).size = N := arr_size _ _
def putF (F : Nat → Int) (off : Nat) (xs : List Int) : Nat → Int := fun i => if off ≤ i ∧ i < off + xs.length then xs.getD (i - off) 0 else F i
theorem putF_in {F : Nat → Int} {off : Nat} {xs : List Int} {i : Nat} (h : i < xs.length) : putF F off xs (off + i) = xs.getD i 0 := by
  unfold putF
  rw [if_pos (by omega), Nat.add_sub_cancel_left]
theorem putF_out {F : Nat → Int} {off : Nat} {xs : List Int} {i : Nat} (h : i < off ∨ off + xs.length ≤ i) : putF F off xs i = F i := by
  unfold putF
  rw [if_neg (by omega)]
theorem intN_cell {W : World} {g t N : Nat} {F : Nat → Int} (h : Blk W g t (intN N F)) {i : Nat} (hi : i < N) : W.cell? ⟨g, i, none⟩ = some (.int .i64 (F i)) := by
  rw [h.cell]
  unfold intN
  rw [arr_get, if_pos hi]
theorem intN_put (N : Nat) (F : Nat → Int) (off : Nat) (xs : List Int) (hfit : off + xs.length ≤ N) : ((intN N F).toList.take off ++ ic xs ++ (intN N F).toList.drop (off + (ic xs).length)).toArray = intN N (putF F off xs) := by
  apply Array.ext'
  rw [List.toList_toArray]
  apply List.ext_getElem?
  intro i
  have hl : (intN N F).toList.length = N := by rw [Array.length_toList, intN_size]
  have hg : ∀ (G : Nat → Int) j, (intN N G).toList[j]? = if j < N then some (Value.int .i64 (G j)) else none := fun G j => by rw [Array.getElem?_toList]; unfold intN; rw [arr_get]
  rw [hg]
  by_cases h1 : i < off
  · rw [List.append_assoc, List.getElem?_append_left (by rw [List.length_take, hl]; omega), List.getElem?_take, if_pos h1, hg, putF_out (.inl h1)]
  · by_cases h2 : i < off + xs.length
    · obtain ⟨k, rfl⟩ : ∃ k, i = off + k := ⟨i - off, by omega⟩
      have hk : k < xs.length := by omega
      rw [List.getElem?_append_left (by rw [List.length_append, List.length_take, hl, ic_length]; omega), List.getElem?_append_right (by rw [List.length_take, hl]; omega), List.length_take, hl, show off + k - min off N = k by omega, putF_in hk, if_pos (by omega)]
      unfold ic
      rw [List.getElem?_map, List.getElem?_eq_getElem hk, List.getD_eq_getElem?_getD, List.getElem?_eq_getElem hk]
      rfl
    · rw [List.getElem?_append_right (by rw [List.length_append, List.length_take, hl, ic_length]; omega), List.length_append, List.length_take, hl, ic_length, List.getElem?_drop, show off + xs.length + (i - (min off N + xs.length)) = i by omega, hg, putF_out (.inr (by omega))]
section
variable {P : Program} {o : Oper} {a : Act} {w : World} {K : Act → World → Prop} {Q : Exit → Act → World → Prop} {ops : Array Oper} {rest : List Oper}
theorem oper_store_ic (ty : TypeId) (x y : Operand) (ho : o.op = .store ty x y) (g off N : Nat) (F : Nat → Int) (xs : List Int) (hx : a.eval x = .pointer (some ⟨g, off, none⟩)) (hy : a.eval y = .agg (icA xs))
    (t : TypeId) (hg : Blk w g t (intN N F)) (hi : (P.info? ty).map (·.size) = some xs.length) (hfit : off + xs.length ≤ N) (h : ∀ w', w' = w.setRow g (intN N (putF F off xs)) → K (a.put o.dst undef) w') : Oper.wp P o a w K Q := by
  unfold Oper.wp
  have hst := run_storeCells_at (P := P) g off t (ic xs) 0 (intN N F) w hg (by rw [ic_length, intN_size]; omega) (ic_one xs)
  rw [Nat.add_zero, intN_put N F off xs hfit] at hst
  cases hq : P.info? ty with
  | none => simp [hq] at hi
  | some i =>
    have hs : xs.length = i.size := by simp [hq] at hi; omega
    have hsz : (icA xs).size = i.size := by rw [icA_size, hs]
    have hl : (icA xs).toList = ic xs := by simp [icA]
    have := h _ rfl
    simp [execOp, ho, hx, hy, Instr.storeAt, Instr.sureAddr, Sem.run_bind, storeVar, sizeOf, typeInfo, hq, Value.cells, hsz, hl, hst, Result.andThen, Oper.upon]
    exact this
theorem wpList_store_ic (hgd : o.guard = none) (ty : TypeId) (x y : Operand) (ho : o.op = .store ty x y) (g off N : Nat) (F : Nat → Int) (xs : List Int) (hx : a.eval x = .pointer (some ⟨g, off, none⟩)) (hy : a.eval y = .agg (icA xs))
    (t : TypeId) (hg : Blk w g t (intN N F)) (hi : (P.info? ty).map (·.size) = some xs.length) (hfit : off + xs.length ≤ N) (h : ∀ w', w' = w.setRow g (intN N (putF F off xs)) → wpList P ops Q rest (a.put o.dst undef) w') : wpList P ops Q (o :: rest) a w :=
  wpList_plain hgd fun _ hK => oper_store_ic ty x y ho g off N F xs hx hy t hg hi hfit fun w' hw => hK _ _ (h w' hw)
end
theorem setCell_intN {w : World} {g t N : Nat} {F : Nat → Int} (h : Blk w g t (intN N F)) {i : Nat} (hi : i < N) (n : Int) : Blk (w.setCell ⟨g, i, none⟩ (.int .i64 n)) g t (intN N (putF F i [n])) := by
  refine (h.store i _).same ?_
  apply Array.ext'
  apply List.ext_getElem?
  intro j
  rw [Array.getElem?_toList, Array.getElem?_toList, Array.getElem?_setIfInBounds]
  unfold intN
  rw [arr_get, arr_get, arr_size]
  by_cases hj : i = j
  · subst hj
    rw [if_pos rfl, if_pos hi, if_pos hi]
    congr 2
    have := putF_in (F := F) (off := i) (xs := [n]) (i := 0) (by simp)
    simpa using this.symm
  · rw [if_neg hj, putF_out (by simp; omega)]
/-- A timer in block B: its clock, and those that run: round, step, when it was set. -/
def TimerAt (W : World) (B : Nat) (now : Int) (l : List (List Int)) : Prop :=
  ∃ F, Blk W B 28 (intN 122 F) ∧ F 0 = now ∧ F 1 = (l.length : Int) ∧ l.length ≤ 40 ∧ (∀ x ∈ l, x.length = 3) ∧ ∀ (j : Nat) (x : List Int), l[j]? = some x → ∀ i, i < 3 → F (2 + 3 * j + i) = x.getD i 0
theorem TimerAt.lt {W : World} {B : Nat} {now : Int} {l : List (List Int)} (h : TimerAt W B now l) : B < W.heap.size := by
  obtain ⟨F, h, _⟩ := h
  exact h.lt
theorem TimerAt.same {W W' : World} {B : Nat} {now : Int} {l : List (List Int)} (h : TimerAt W B now l) (hb : W'.heap[B]? = W.heap[B]?) : TimerAt W' B now l := by
  obtain ⟨F, h, h1⟩ := h
  refine ⟨F, ?_, h1⟩
  unfold Blk at h ⊢
  rw [hb]
  exact h
theorem TimerAt.below {W W' : World} {B : Nat} {now : Int} {l : List (List Int)} (h : TimerAt W B now l) (hb : Below W.heap.size W W') : TimerAt W' B now l := h.same (hb.block _ h.lt)
theorem grown_setRow (w : World) (g : Nat) (cs : Array Value) : w.grownBy (w.setRow g cs) (some g) := ⟨rfl, rfl, rfl, by rw [size_setRow]; exact Nat.le_refl _, fun i _ hn => setRow_other w g i cs (fun e => hn (e ▸ rfl))⟩
theorem grown_setCell (w : World) (g i : Nat) (v : Value) : w.grownBy (w.setCell ⟨g, i, none⟩ v) (some g) := ⟨rfl, rfl, rfl, by simp [World.setCell], fun j _ hn => Below.heap_setCell w _ v j (fun e => hn (e ▸ rfl))⟩
theorem grown_below {w w' : World} (h : Below w.heap.size w w') (row : Option Nat) : w.grownBy w' row := ⟨h.os, h.tape, h.output, h.size, fun i hi _ => h.block i hi⟩
theorem grown_trans' {a b c : World} {row : Option Nat} (h : a.grownBy b row) (k : b.grownBy c row) : a.grownBy c row := ⟨k.os.trans h.os, k.tape.trans h.tape, k.output.trans h.output, Nat.le_trans h.size k.size, fun i hi hn => (k.block i (Nat.lt_of_lt_of_le hi h.size) hn).trans (h.block i hi hn)⟩
set_option maxRecDepth 100000 in
set_option maxHeartbeats 4000000 in
theorem delay_any (n : Int) (w : World) : Calls Try.prog 10 #[.int .i64 n] w fun e w' => e = .returned (.int .i64 (dly n)) ∧ w' = w := by
  go_enter Try.func10, Try.ntmps10
  go_wp2_with fail
  go_ret
  refine ⟨?_, rfl⟩
  unfold dly
  go_num
set_option maxRecDepth 100000 in
set_option maxHeartbeats 4000000 in
theorem refdelay_any (n : Int) (w : World) : Calls Try.prog 11 #[.int .i64 n] w fun e w' => e = .returned (.int .i64 (dly n)) ∧ w' = w := by
  rcases Int.lt_or_le n 0 with h | h
  · have e : dly n = 3 := by unfold dly; omega
    rw [e]
    go_enter Try.func11, Try.ntmps11
    go_wp2_with fail
    go_ret
    exact ⟨rfl, rfl⟩
  · rcases Int.lt_or_le 1000 n with h2 | h2
    · have e : dly n = 2003 := by unfold dly; omega
      rw [e]
      go_enter Try.func11, Try.ntmps11
      go_wp2_with fail
      go_ret
      exact ⟨rfl, rfl⟩
    · have e : dly n = 3 + 2 * n := by unfold dly; omega
      rw [e]
      go_enter Try.func11, Try.ntmps11
      go_wp2_with fail
      go_ret
      exact ⟨rfl, rfl⟩
set_option maxRecDepth 100000 in
set_option maxHeartbeats 4000000 in
theorem len_any {W : World} {B : Nat} {now : Int} {l : List (List Int)} (h : TimerAt W B now l) : Calls Try.prog 15 #[.pointer (some ⟨B, 0, none⟩)] W fun e w' => e = .returned (.int .i64 (l.length : Int)) ∧ w' = W := by
  obtain ⟨F, hk, h0, h1, _⟩ := h
  have c1 := intN_cell hk (i := 1) (by omega)
  rw [h1] at c1
  go_enter Try.func15, Try.ntmps15
  go_wp2_with fail
  go_ret
  exact ⟨rfl, rfl⟩
set_option maxRecDepth 100000 in
set_option maxHeartbeats 4000000 in
theorem now_any {W : World} {B : Nat} {now : Int} {l : List (List Int)} (h : TimerAt W B now l) : Calls Try.prog 16 #[.pointer (some ⟨B, 0, none⟩)] W fun e w' => e = .returned (.int .i64 now) ∧ w' = W := by
  obtain ⟨F, hk, h0, h1, _⟩ := h
  have c0 := intN_cell hk (i := 0) (by omega)
  rw [h0] at c0
  go_enter Try.func16, Try.ntmps16
  go_wp2_with fail
  go_ret
  exact ⟨rfl, rfl⟩
set_option maxRecDepth 100000 in
set_option maxHeartbeats 4000000 in
theorem clear_any {W : World} {B : Nat} {now : Int} {l : List (List Int)} (h : TimerAt W B now l) : Calls Try.prog 14 #[.pointer (some ⟨B, 0, none⟩)] W fun e w' => (∃ v, e = .returned v) ∧ TimerAt w' B now [] ∧ W.grownBy w' (some B) := by
  obtain ⟨F, hk, h0, h1, _⟩ := h
  have c1 := intN_cell hk (i := 1) (by omega)
  have f1 := hk.frozen 1
  have HK := Lib.hid hk
  have H0 := Lib.hid h0
  clear hk h0 h1
  go_enter Try.func14, Try.ntmps14
  go_wp2_with fail
  go_end0
  exact ⟨⟨_, rfl⟩, ⟨_, setCell_intN HK.out (by omega) 0, by rw [putF_out (by omega)]; exact H0.out, by have := putF_in (F := F) (off := 1) (xs := [0]) (i := 0) (by simp); simpa using this, by simp, fun _ h => by simp at h, fun _ _ h => by simp at h⟩, grown_setCell _ _ _ _⟩
end Go.Proofs.Ytgcpiaogodgphaa
