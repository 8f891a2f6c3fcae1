/-
  TimerPlays: what the timers and the reference's have in common. No condition.
-/
import Derived.Test.YtgcpiaogodgphaaTmrRef
import Derived.Test.YtgcpiaogodgphaaTmrArgs
namespace Go.Proofs.Ytgcpiaogodgphaa
open Go Go.RowKit Go.ChangeShapes Go.WideShapes Go.ChangeAt

def dueOf (p : Int) (x : List Int) : List Int := [dly (x.getD 0 0) - (p - x.getD 2 0), x.getD 0 0, x.getD 1 0]
theorem dec_due (p : Int) (x : List Int) : decD (dueOf p x) = dueOf (p + 1) x := by
  unfold decD dueOf
  simp only [List.getD_cons_zero, List.getD_cons_succ]
  congr 1
  omega
theorem leftD_due (p : Int) (l : List (List Int)) : leftD (l.map (dueOf p)) = (keepL (p + 1) l).map (dueOf (p + 1)) := by
  unfold leftD keepL
  rw [List.map_map, show decD ∘ dueOf p = dueOf (p + 1) from funext (dec_due p), List.filter_map]
  congr 1
  refine List.filter_congr fun x _ => ?_
  unfold dueL dueOf
  simp only [Function.comp_apply, List.getD_cons_zero, ← decide_not, decide_eq_decide]
  omega
theorem overD_due (p : Int) (l : List (List Int)) : overD (l.map (dueOf p)) = (overL (p + 1) l).map (dueOf (p + 1)) := by
  unfold overD overL
  rw [List.map_map, show decD ∘ dueOf p = dueOf (p + 1) from funext (dec_due p), List.filter_map]
  congr 1
  refine List.filter_congr fun x _ => ?_
  unfold dueL dueOf
  simp only [Function.comp_apply, List.getD_cons_zero, decide_eq_decide]
  omega
theorem due_more (p r s : Int) (l : List (List Int)) : (l ++ [[r, s, p]]).map (dueOf p) = l.map (dueOf p) ++ [[dly r, r, s]] := by
  rw [List.map_append, List.map_singleton]
  congr 2
  unfold dueOf
  simp
theorem due_bounds {p : Nat} {l : List (List Int)} (h : OkL (p : Int) l) : ∀ x ∈ l.map (dueOf (p : Int)), -1000000 ≤ x.getD 0 0 ∧ x.getD 0 0 ≤ 1000000 := fun x hx => by
  obtain ⟨y, hy, rfl⟩ := List.mem_map.1 hx
  have h1 := h.2 y hy
  have h2 := h.1
  have h3 := dly_low (y.getD 0 0)
  unfold dueOf
  simp only [List.getD_cons_zero]
  omega
/-- A script that came in. -/
def RdO (W : World) (v : Value) (l : List (List Int)) : Prop :=
  (∀ x ∈ l, x.length = 3) ∧ ∃ A c, v = .slice A l.length c ∧ l.length ≤ c ∧ (0 < l.length → ∃ ad : Addr, A = some ad ∧ ad.block < W.heap.size ∧ ∀ j x, l[j]? = some x → ∀ i, i < 3 → W.cell? (ad.add (3 * j + i)) = (ic x)[i]?)
theorem RdO.rdK {W : World} {v : Value} {l : List (List Int)} (h : RdO W v l) (hl : l.length ≤ 1000000) : RdK 3 W W.heap.size v l := by
  obtain ⟨h0, A, c, h1, h2, h3⟩ := h
  exact ⟨h0, A, c, h1, h2, hl, h3⟩
theorem op_info : (Try.prog.info? 31).map (·.size) = some 3 := by kernel_rfl
theorem cellsOp : Try.prog.cellsOf 31 = 3 := by kernel_rfl
section
variable {H : Type} {enc : TypeId × Value → H}
set_option maxRecDepth 100000 in
theorem open_opC {W : World} {fuel : Nat} {cs : List Value} {x : DataW H × List MemPlace} (hsz : cs.length = 3) (hf : DataW.trod enc Try.prog W 0 (fun _ => true) true fuel 31 cs = some x) : ∃ l : List Int, l.length = 3 ∧ cs = ic l := by
  obtain ⟨xs, n, _, hx, _, hlen, hg⟩ := DataW.trod_struct Try.underlying31 hf
  have hxl : xs.length = 3 := hlen
  have get : ∀ j, j < 3 → ∃ y, xs[j]? = some y := fun j hj => ⟨_, List.getElem?_eq_getElem (by omega)⟩
  have one : ∀ (o : Nat) (x : Value), (cs.drop o).take 1 = [x] → cs[o]? = some x := fun o x hx => by
    have h3 := congrArg (fun l : List Value => l[0]?) hx
    simp only [List.getElem?_take, List.getElem?_drop, Nat.zero_lt_one, if_true, Nat.add_zero] at h3
    exact h3
  obtain ⟨y0, g0⟩ := get 0 (by omega)
  obtain ⟨y1, g1⟩ := get 1 (by omega)
  obtain ⟨y2, g2⟩ := get 2 (by omega)
  have f0 : DataW.trod enc Try.prog W 0 (fun _ => true) true n 3 ((cs.drop 0).take (Try.prog.cellsOf 3)) = some y0 := (hg 0 _ rfl).trans g0
  rw [cellsInt] at f0
  have f1 : DataW.trod enc Try.prog W 0 (fun _ => true) true n 3 ((cs.drop 1).take (Try.prog.cellsOf 3)) = some y1 := (hg 1 _ rfl).trans g1
  rw [cellsInt] at f1
  have f2 : DataW.trod enc Try.prog W 0 (fun _ => true) true n 3 ((cs.drop 2).take (Try.prog.cellsOf 3)) = some y2 := (hg 2 _ rfl).trans g2
  rw [cellsInt] at f2
  obtain ⟨n0, e0, _, _⟩ := DataW.trod_int Try.underlying3 f0
  obtain ⟨n1, e1, _, _⟩ := DataW.trod_int Try.underlying3 f1
  obtain ⟨n2, e2, _, _⟩ := DataW.trod_int Try.underlying3 f2
  refine ⟨[n0, n1, n2], rfl, List.ext_getElem? fun i => ?_⟩
  by_cases hi : i < 3
  · have : i = 0 ∨ i = 1 ∨ i = 2 := by omega
    rcases this with rfl | rfl | rfl
    · exact one 0 _ e0
    · exact one 1 _ e1
    · exact one 2 _ e2
  · rw [List.getElem?_eq_none (by omega), List.getElem?_eq_none (by rw [ic_length]; simp; omega)]
set_option maxRecDepth 100000 in
/-- []Op. -/
theorem open_opsT {W : World} {fuel : Nat} {cs : List Value} {d : DataW H} {p : List MemPlace} (h : DataW.trod enc Try.prog W 0 (fun _ => true) true fuel 22 cs = some (d, p)) : ∃ (v : Value) (l : List (List Int)), cs = [v] ∧ RdO W v l := by
  rcases Go.Deep.open_slice Try.underlying22 h with ⟨rfl, hx⟩ | ⟨a, len, cap, m, n, D0, Pl, rfl, _, hle, hm, hmm, hx, hi⟩
  · exact ⟨_, [], rfl, by simp, none, 0, rfl, Nat.le_refl _, fun h => by simp at h⟩
  · simp only [Prod.mk.injEq] at hx
    obtain ⟨rfl, rfl⟩ := hx
    simp only [if_true] at hmm
    subst hmm
    have each : ∀ k, k < len → ∃ x : List Int, x.length = 3 ∧ ∀ i, i < 3 → W.cell? (a.add (3 * k + i)) = (ic x)[i]? := fun k hk => by
      obtain ⟨cs', hc, ht⟩ := hi k (by omega)
      rw [cellsOp] at hc
      obtain ⟨_, hcl, hat⟩ := World.cells?_some hc
      obtain ⟨x, hok, hx⟩ := open_opC hcl ht
      refine ⟨x, hok, fun i hi' => ?_⟩
      have := hat i hi'
      rw [Go.Deep.add_add, hx] at this
      rw [Nat.mul_comm]
      exact this
    have hlen : ((List.range len).map fun k => if hk : k < len then Classical.choose (each k hk) else []).length = len := by rw [List.length_map, List.length_range]
    refine ⟨_, (List.range len).map fun k => if hk : k < len then Classical.choose (each k hk) else [], rfl, fun x hx => ?_, some a, _, by rw [hlen], by rw [hlen]; exact hle, fun h0 => ⟨a, rfl, ?_, fun k x hk i hi' => ?_⟩⟩
    · obtain ⟨k, hk, rfl⟩ := List.mem_map.1 hx
      have hk' := List.mem_range.1 hk
      simp only [hk', dif_pos]
      exact (Classical.choose_spec (each k hk')).1
    · rw [hlen] at h0
      have h5 := Classical.choose_spec (each 0 h0)
      have h6 := h5.2 0 (by omega)
      rw [List.getElem?_eq_getElem (by rw [ic_length, h5.1]; omega)] at h6
      have := block_lt_of_cell h6
      rwa [block_add] at this
    · have hkl := (List.getElem?_eq_some_iff.1 hk).1
      rw [hlen] at hkl
      rw [List.getElem?_map, List.getElem?_range hkl] at hk
      simp only [Option.map_some, hkl, dif_pos, Option.some.injEq] at hk
      rw [← hk]
      exact (Classical.choose_spec (each k hkl)).2 i hi'
end
theorem neq_boolT (b : Bool) (w : World) : (binOp .neq 4 (.bool b) (.bool b)).run Try.prog w = .ok (.bool false) w := by cases b <;> kernel_rfl
theorem int_neqT (n : Int) (w : World) : (binOp .neq 3 (.int .i64 n) (.int .i64 n)).run Try.prog w = .ok (.bool false) w := by
  go_simp
theorem int_geqF (m n : Int) (h : m < n) (w : World) : (binOp .geq 3 (.int .i64 m) (.int .i64 n)).run Try.prog w = .ok (.bool false) w := by
  rw [int_geq, decide_eq_false (by omega)]
/-- An element's place. -/
theorem index_due (ad : Addr) (n c q : Nat) (hq : q < n) (w : World) : (Instr.indexAt 29 (.slice (some ad) n c) (.int .i64 (q : Int))).run Try.prog w = .ok (.pointer (some (ad.add (q * 3)))) w := by
  have hs : (sizeOf 43).run Try.prog w = .ok 3 w := by
    cases hi : Try.prog.info? 43 with
    | none => have := due_info; simp [hi] at this
    | some i =>
      have : i.size = 3 := by have := due_info; simpa [hi] using this
      simp [sizeOf, typeInfo, hi, this]
  have hu := Try.underlying29
  have hq1 : (q : Int) < (n : Int) := by omega
  simp [Instr.indexAt, run_underlying hu, hq, asIntOf, Sem.run_bind, go_sem]
end Go.Proofs.Ytgcpiaogodgphaa
