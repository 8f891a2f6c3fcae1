/-
  CountOne: rows of IDs, two counts side by side, and what is sure in both. No condition.
-/
import Derived.Test.YtpjeildiahklpaaCntGuard
import Derived.Deep.Slices
namespace Go.Proofs.Ytpjeildiahklpaa
open Go Go.RowKit Go.Maps

theorem run_loadAt_cells {P : Program} (ty : TypeId) (ad : Addr) (N : Nat) (f : Nat → Value) (e : TypeId) (w : World) (hg : ∀ i, i < N → w.cell? (ad.add i) = some (f i))
    (hu : P.underlying ty = some (.array N e)) (hi : (P.info? ty).map (·.size) = some N) : (Instr.loadAt ty (.pointer (some ad))).run P w = .ok (.agg (arr N f)) w := by
  have hl := run_loadCells_list (P := P) w ad (arr N f).toList (fun j v hv => by
    rw [Array.getElem?_toList, arr_get] at hv
    by_cases hj : j < N
    · rw [if_pos hj] at hv
      cases hv
      exact hg j hj
    · rw [if_neg hj] at hv; cases hv)
  simp only [Array.length_toList, arr_size, Array.toArray_toList] at hl
  cases hq : P.info? ty with
  | none => simp [hq] at hi
  | some i =>
    have hs : i.size = N := by simpa [hq] using hi
    have hagg : (isAgg ty).run P w = .ok true w := by
      unfold isAgg
      rw [Sem.run_bind, run_underlying hu w]
      rfl
    simp [Instr.loadAt, Instr.sureAddr, loadVar, Sem.run_bind, hagg, sizeOf, typeInfo, hq, hs, hl]
theorem add_add' (a : Addr) (i j : Nat) : (a.add i).add j = a.add (i + j) := Go.Deep.add_add a i j
/-- A slice of IDs that reads as l, its cells in blocks below B. -/
def RdL (W : World) (B : Nat) (v : Value) (l : List (List UInt8)) : Prop :=
  (∀ x ∈ l, IdOk x) ∧ ∃ A c, v = .slice A l.length c ∧ l.length ≤ c ∧ l.length ≤ 4398046511104 ∧ (0 < l.length → ∃ ad : Addr, A = some ad ∧ ad.block < B ∧ ∀ k, k < l.length → ∀ i, i < 32 → W.cell? (ad.add (32 * k + i)) = some (Extern.Stop.cell ((l.getD k []).getD i 0)))
theorem RdL.old {W W' : World} {B : Nat} {v : Value} {l : List (List UInt8)} (h : RdL W B v l) (hb : Below B W W') : RdL W' B v l := by
  obtain ⟨h0, A, c, h1, h2, h3, h4⟩ := h
  refine ⟨h0, A, c, h1, h2, h3, fun hl => ?_⟩
  obtain ⟨ad, q1, q2, q3⟩ := h4 hl
  exact ⟨ad, q1, q2, fun k hk i hi => (hb.cell (p := ad.add (32 * k + i)) (by rw [block_add]; exact q2)).trans (q3 k hk i hi)⟩
theorem arr_idv {l : List UInt8} (h : IdOk l) : Value.agg (arr 32 fun i => Extern.Stop.cell (l.getD i 0)) = idv l := by
  unfold idv
  congr 1
  refine Array.ext_getElem? fun i => ?_
  rw [arr_get]
  unfold IdOk at h
  by_cases hi : i < 32
  · rw [if_pos hi, List.getElem?_toArray, List.getElem?_map, List.getElem?_eq_getElem (by omega), List.getD_eq_getElem?_getD, List.getElem?_eq_getElem (by omega)]
    rfl
  · rw [if_neg hi, List.getElem?_toArray, List.getElem?_eq_none (by simp; omega)]
theorem run_load_id (w : World) (ad : Addr) (l : List UInt8) (hl : IdOk l) (h : ∀ i, i < 32 → w.cell? (ad.add i) = some (Extern.Stop.cell (l.getD i 0))) : (Instr.loadAt 24 (.pointer (some ad))).run Try.prog w = .ok (idv l) w := by
  have := run_loadAt_cells (P := Try.prog) 24 ad 32 (fun i => Extern.Stop.cell (l.getD i 0)) 5 w h Try.underlying24 (by kernel_rfl)
  rw [arr_idv hl] at this
  exact this
theorem RdL.here {W : World} {B : Nat} {v : Value} {l : List (List UInt8)} (h : RdL W B v l) {k : Nat} (hk : k < l.length) : ∃ ad c, v = .slice (some ad) l.length c ∧ IdOk (l.getD k []) ∧ ∀ W', Below B W W' → (Instr.loadAt 24 (.pointer (some (ad.add (k * 32))))).run Try.prog W' = .ok (idv (l.getD k [])) W' := by
  obtain ⟨h0, A, c, rfl, h2, h3, h4⟩ := h
  obtain ⟨ad, rfl, q2, q3⟩ := h4 (by omega)
  have hid : IdOk (l.getD k []) := h0 _ (by rw [List.getD_eq_getElem?_getD, List.getElem?_eq_getElem hk]; exact List.getElem_mem hk)
  refine ⟨ad, c, rfl, hid, fun W' hb => run_load_id W' _ _ hid fun i hi => ?_⟩
  rw [add_add', Nat.mul_comm k 32]
  exact (hb.cell (p := ad.add (32 * k + i)) (by rw [block_add]; exact q2)).trans (q3 k hk i hi)
set_option maxRecDepth 100000 in
set_option maxHeartbeats 4000000 in
theorem reffaults_any (n : Int) (w : World) : Calls Try.prog 17 #[.int .i64 n] w fun e w' => e = .returned (.int .i64 (faults n)) ∧ w' = w := by
  by_cases h1 : n = 1
  · subst h1
    go_enter Try.func17, Try.ntmps17
    go_wp2_with fail
    go_ret
    exact ⟨rfl, rfl⟩
  by_cases h4 : n = 4
  · subst h4
    go_enter Try.func17, Try.ntmps17
    go_wp2_with fail
    go_ret
    exact ⟨rfl, rfl⟩
  by_cases h7 : n = 7
  · subst h7
    go_enter Try.func17, Try.ntmps17
    go_wp2_with fail
    go_ret
    exact ⟨rfl, rfl⟩
  have e1 : (n == 1) = false := beq_eq_false_iff_ne.2 h1
  have e4 : (n == 4) = false := beq_eq_false_iff_ne.2 h4
  have e7 : (n == 7) = false := beq_eq_false_iff_ne.2 h7
  have hf : faults n = -1 := by unfold faults; rw [if_neg h1, if_neg h4, if_neg h7]
  rw [hf]
  clear hf
  go_enter Try.func17, Try.ntmps17
  go_wp2_with fail
  go_ret
  exact ⟨rfl, rfl⟩
/-! Two counts side by side. -/
def oneV (n : Int) (f : Nat) (F H : List (List UInt8)) : Nat → Vt
  | 0 => noVotes
  | i + 1 => if i < f then (if i < F.length then putT n (oneV n f F H i) 0 0 i (F.getD i []) else oneV n f F H i) else (if i - f < H.length then putT n (oneV n f F H i) 0 0 i (H.getD (i - f) []) else oneV n f F H i)
theorem putT_other {n : Int} {V : Vt} {r k s r' k' s' : Int} {id : List UInt8} (h : s' ≠ s) : putT n V r k s id r' k' s' = V r' k' s' := by
  unfold putT
  split
  · unfold putC
    rw [if_neg (fun h' => h h'.2.2)]
  · rfl
theorem putT_here {n : Int} {V V' : Vt} {r k s : Int} {id : List UInt8} (h : V r k s = V' r k s) : putT n V r k s id r k s = putT n V' r k s id r k s := by
  unfold putT
  rw [h]
  split
  · unfold putC
    rw [if_pos ⟨rfl, rfl, rfl⟩, if_pos ⟨rfl, rfl, rfl⟩]
  · exact h
/-- Who isn't faulty voted alike in both. -/
theorem oneV_alike (n : Int) (f : Nat) (F G H : List (List UInt8)) (s : Nat) (hs : f ≤ s) : ∀ i, oneV n f F H i 0 0 s = oneV n f G H i 0 0 s := by
  intro i
  induction i with
  | zero => rfl
  | succ i ih =>
    show (if i < f then _ else _ : Vt) 0 0 s = (if i < f then _ else _ : Vt) 0 0 s
    by_cases hi : i < f
    · rw [if_pos hi, if_pos hi]
      have hne : (s : Int) ≠ (i : Int) := by omega
      have a1 : ∀ F', (if i < F'.length then putT n (oneV n f F' H i) 0 0 i (F'.getD i []) else oneV n f F' H i : Vt) 0 0 s = oneV n f F' H i 0 0 s := fun F' => by
        split
        · exact putT_other hne
        · rfl
      rw [a1, a1]
      exact ih
    · rw [if_neg hi, if_neg hi]
      by_cases hj : i - f < H.length
      · rw [if_pos hj, if_pos hj]
        by_cases hsi : (s : Int) = (i : Int)
        · rw [hsi] at ih ⊢
          exact putT_here ih
        · rw [putT_other hsi, putT_other hsi]
          exact ih
      · rw [if_neg hj, if_neg hj]
        exact ih
/-- No two are sure. -/
theorem one_sure {n f : Nat} (hf : faults (n : Int) = (f : Int)) (F G H : List (List UInt8)) {x y : List UInt8} (hx : sureO n (oneV n f F H n) 0 0 = some x) (hy : sureO n (oneV n f G H n) 0 0 = some y) : x = y := by
  have h0 : 0 ≤ faults (n : Int) := by omega
  rw [sureO_iff h0] at hx hy
  have hnf : n = 3 * f + 1 := by
    rcases faults_cases h0 with ⟨h1, h2⟩ | ⟨h1, h2⟩ | ⟨h1, h2⟩ <;> omega
  have hneed : need n = 2 * (f : Int) + 1 := by unfold need; omega
  refine Classical.byContradiction fun hne => ?_
  refine sure_two n f hnf (fun s : Nat => oneV n f F H n 0 0 (s : Int) == some x) (fun s : Nat => oneV n f G H n 0 0 (s : Int) == some y) (fun s hs _ h => ?_) (by unfold forN at hx; omega) (by unfold forN at hy; omega)
  simp only [beq_iff_eq] at h
  rw [oneV_alike n f F G H s hs n] at h
  exact hne (Option.some.inj (h.1.symm.trans h.2))
/-- Two counts and a block beside them. -/
structure TwoC (w wr : World) (g B1 M1 B2 M2 : Nat) (n1 n2 : Nat) (N : Int) (V1 V2 : Vt) (ty : TypeId) (vs : Array Value) : Prop where
  ca : CountAt wr B1 M1 n1 N V1
  cb : CountAt wr B2 M2 n2 N V2
  box : Blk wr g ty vs
  below : Below w.heap.size w wr
  apart : M1 ≠ B2 ∧ M1 ≠ M2 ∧ M1 ≠ g ∧ B1 ≠ M2 ∧ M2 ≠ g ∧ w.heap.size ≤ M1 ∧ w.heap.size ≤ M2
section
variable {w wr w' : World} {g B1 M1 B2 M2 n1 n2 : Nat} {N : Int} {V1 V2 V' : Vt} {ty : TypeId} {vs : Array Value}
theorem TwoC.putA (h : TwoC w wr g B1 M1 B2 M2 n1 n2 N V1 V2 ty vs) {m : Nat} (hc : CountAt w' B1 M1 m N V') (hg : wr.grownBy w' (some M1)) : TwoC w w' g B1 M1 B2 M2 m n2 N V' V2 ty vs :=
  ⟨hc, h.cb.same (hg.block _ h.cb.ltB (fun e => h.apart.1 ((Option.some.inj e).symm))) (hg.block _ h.cb.ltM (fun e => h.apart.2.1 ((Option.some.inj e).symm))),
    (hg.block _ h.box.lt (fun e => h.apart.2.2.1 ((Option.some.inj e).symm))).trans h.box, h.below.trans (below_of_grown hg h.apart.2.2.2.2.2.1 h.below.size), h.apart⟩
theorem TwoC.putB (h : TwoC w wr g B1 M1 B2 M2 n1 n2 N V1 V2 ty vs) {m : Nat} (hc : CountAt w' B2 M2 m N V') (hg : wr.grownBy w' (some M2)) : TwoC w w' g B1 M1 B2 M2 n1 m N V1 V' ty vs :=
  ⟨h.ca.same (hg.block _ h.ca.ltB (fun e => h.apart.2.2.2.1 (Option.some.inj e))) (hg.block _ h.ca.ltM (fun e => h.apart.2.1 (Option.some.inj e))), hc,
    (hg.block _ h.box.lt (fun e => h.apart.2.2.2.2.1 ((Option.some.inj e).symm))).trans h.box, h.below.trans (below_of_grown hg h.apart.2.2.2.2.2.2 h.below.size), h.apart⟩
theorem TwoC.more (h : TwoC w wr g B1 M1 B2 M2 n1 n2 N V1 V2 ty vs) {m1 m2 : Nat} (h1 : n1 ≤ m1) (h2 : n2 ≤ m2) : TwoC w wr g B1 M1 B2 M2 m1 m2 N V1 V2 ty vs := ⟨h.ca.mono h1, h.cb.mono h2, h.box, h.below, h.apart⟩
theorem TwoC.kept (h : TwoC w wr g B1 M1 B2 M2 n1 n2 N V1 V2 ty vs) (hb : Below wr.heap.size wr w') : TwoC w w' g B1 M1 B2 M2 n1 n2 N V1 V2 ty vs :=
  ⟨h.ca.below hb, h.cb.below hb, h.box.below hb h.box.lt, h.below.trans (hb.mono h.below.size), h.apart⟩
end
end Go.Proofs.Ytpjeildiahklpaa
