/-
  cut: not more than so many; the reference's Same, of like lists. No condition.
-/
import Derived.Test.YtkkanaefngggoaaDoorTreeGrows
namespace Go.Proofs.YtkkanaefngggoaaDoor
open Go Go.RowKit Go.Shelf TreeM

section
variable {P : Program} {ops : Array Oper} {w : World}
theorem wpStill_load_at {Q : Act → Prop} {a : Act} {o : Oper} {rest : List Oper} (hgd : o.guard = none) (ty : TypeId) (x : Operand) (ho : o.op = .load ty x) (ad : Addr) (hx : a.eval x = .pointer (some ad)) (N : Nat) (f : Nat → Value) (e : TypeId)
    (hg : ∀ i, i < N → w.cell? (ad.add i) = some (f i)) (hu : P.underlying ty = some (.array N e)) (hi : (P.info? ty).map (·.size) = some N) (h : wpStill P ops w Q rest (a.put o.dst (.agg (arr N f)))) : wpStill P ops w Q (o :: rest) a := by
  refine wpStill_step fun K hK => ?_
  rw [if_pos (by simp [Region.wanted, hgd])]
  unfold Oper.still
  have hl := run_loadAt_cells (P := P) ty ad N f e w hg hu hi
  have e : (execOp a.eval o).run P w = .ok (.value (.agg (arr N f))) w := by
    simp only [execOp, ho, hx, Sem.run_bind, hl, Result.andThen_ok, Sem.run_pure]
  rw [e, Oper.stillUpon_value]
  exact hK _ h
theorem wpStill_bin {Q : Act → Prop} {a : Act} {o : Oper} {rest : List Oper} (hgd : o.guard = none) (op : BinOp) (t rt : TypeId) (x y : Operand) (ho : o.op = .binOp op t x y rt) (vx vy v : Value) (hx : a.eval x = vx) (hy : a.eval y = vy)
    (hq : (eqGuard op t x y vx vy).run P w = .ok () w) (hv : (binOp op t vx vy).run P w = .ok v w) (h : wpStill P ops w Q rest (a.put o.dst v)) : wpStill P ops w Q (o :: rest) a := by
  refine wpStill_step fun K hK => ?_
  rw [if_pos (by simp [Region.wanted, hgd])]
  unfold Oper.still
  subst hx hy
  have e : (execOp a.eval o).run P w = .ok (.value v) w := by
    simp [execOp, ho, hq, hv]
  rw [e, Oper.stillUpon_value]
  exact hK _ h
end
set_option maxRecDepth 100000 in
set_option maxHeartbeats 1000000 in
theorem cut_any (A : Option Addr) (n c m q : Nat) (hn : n ≤ c) (hq : min n m = q) (_hm : m ≤ 1000) (w : World) :
    Calls Tryd.prog 18 #[.slice A n c, .int .i64 (m : Int)] w fun e w' => e = .returned (.slice A q c) ∧ w' = w := by
  have hsl := run_slice_toN (P := Tryd.prog) 22 30 Tryd.underlying22 32 (by kernel_rfl) A n c q (by omega)
  have hmin : min (n : Int) (m : Int) = (q : Int) := by omega
  have hmin2 : (if (m : Int) < (n : Int) then (m : Int) else (n : Int)) = (q : Int) := by split <;> omega
  go_enter Tryd.func18, Tryd.ntmps18
  go_wp2
  go_ret
  exact ⟨rfl, rfl⟩
set_option maxRecDepth 100000 in
set_option maxHeartbeats 1000000 in
theorem same_true (v v' : Value) (l : List D) (w : World) (hr : RdI w (fun b => b < w.heap.size) v l) (hr' : RdI w (fun b => b < w.heap.size) v' l) (hl : l.length ≤ 1000000) :
    Calls Tryd.prog 24 #[v, v'] w fun e w' => e = .returned (.bool true) ∧ Below w.heap.size w w' := by
  obtain ⟨A, c, rfl, _⟩ := id hr
  obtain ⟨A', c', rfl, _⟩ := id hr'
  obtain ⟨n, hn⟩ : ∃ n, l.length = n := ⟨_, rfl⟩
  rw [hn] at hr hr' hl ⊢
  have HR := Lib.hid hr
  have HR' := Lib.hid hr'
  clear hr hr'
  go_enter Tryd.func24, Tryd.ntmps24
  go_wp2
  go_loopw [5] (fun i wr => ∃ k : Nat, k ≤ n ∧ i = .int .i64 (k : Int) ∧ Below w.heap.size w wr) (fun i _ => n - (intOf i).toNat)
  case atStart => exact ⟨0, by omega, rfl, Below.refl _ _⟩
  case round =>
    obtain ⟨k, hk, rfl, hb⟩ := hrel
    by_cases hlt : k < n
    · obtain ⟨ad, rfl, hok, hc⟩ := (HR.out.old hb).at_ hlt
      obtain ⟨ad', rfl, hok', hc'⟩ := (HR'.out.old hb).at_ hlt
      obtain ⟨f, hf⟩ : ∃ f, l.getD k dz = f := ⟨_, rfl⟩
      rw [hf] at hc hc'
      have hkn : (k : Int) < (n : Int) := by omega
      have hk0 : (0 : Int) ≤ (k : Int) := by omega
      have ne := fun W => neq_id f f W
      rw [beq_self_eq_true] at ne
      rw [Nat.mul_comm 32 k] at hc hc'
      have HC := Lib.hid hc
      have HC' := Lib.hid hc'
      have HB := Lib.hid hb
      have NE := Lib.hid ne
      clear hf hc hc' hb ne hok hok'
      go_wp2
      refine wp_region_still_lit (by kernel_rfl) (by kernel_rfl) ?_
      repeat still_step
      refine wpStill_load_at rfl 30 _ rfl (ad.add (k * 32)) rfl 32 (fun i => bv (f i)) 5 HC.out Tryd.underlying30 (by kernel_rfl) ?_
      repeat still_step
      refine wpStill_load_at rfl 30 _ rfl (ad'.add (k * 32)) rfl 32 (fun i => bv (f i)) 5 HC'.out Tryd.underlying30 (by kernel_rfl) ?_
      refine wpStill_bin rfl .neq 30 _ _ _ rfl _ _ (.bool false) rfl rfl (by kernel_rfl) (NE.out _) ?_
      refine wpStill_nil ?_
      change Exit.then _ _ Exit.normal _ wr.drew
      go_wp2
      go_roundw
      case rel => exact ⟨k + 1, by omega, by go_num, HB.out.drew⟩
      case measure => simp [intOf]; omega
    · obtain rfl : k = n := by omega
      have HB := Lib.hid hb
      clear hb
      go_wp2
      go_ret
      exact ⟨rfl, HB.out⟩
end Go.Proofs.YtkkanaefngggoaaDoor
