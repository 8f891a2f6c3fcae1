/-
  pack.writeID, pack.writeIDs: an ID's bytes, or none, if it is the zero one; all bytes of some IDs. For every argument, in whatever memory.
  pack.writeList: for every list of entries together shorter than 2^24: the runs one behind the other. In whatever memory.
-/
import Derived.Test.YtkbdkeclbokhdaaDoorPackStr
import Derived.Test.YtkbdkeclbokhdaaDoorPackRun
namespace Go.Proofs.YtkbdkeclbokhdaaDoor
open Go Go.RowKit PackMath

section
variable {P : Program} {ops : Array Oper} {rest : List Oper} {o : Oper} {a : Act} {w : World} {Q : Exit → Act → World → Prop}
theorem run_loadAt_cells {P : Program} (ty : TypeId) (ad : Addr) (N : Nat) (f : Nat → Value) (e : TypeId) (w : World) (hg : ∀ i, i < N → w.cell? (ad.add i) = some (f i))
    (hu : P.underlying ty = some (.array N e)) (hi : (P.info? ty).map (·.size) = some N) : (Instr.loadAt ty (.pointer (some ad))).run P w = .ok (.agg (arr N f)) w := by
  have hl := run_loadCells_list (P := P) w ad (arr N f).toList (fun j v hv => by
    rw [Array.getElem?_toList, arr_get] at hv
    by_cases hj : j < N
    · rw [if_pos hj] at hv
      cases hv
      exact hg j hj
    · rw [if_neg hj] at hv; cases hv)
  simp only [Array.length_toList, arr_size, Array.toArray_toList] at hl
  cases hq : P.info? ty with
  | none => simp [hq] at hi
  | some i =>
    have hs : i.size = N := by simpa [hq] using hi
    have hagg : (isAgg ty).run P w = .ok true w := by
      unfold isAgg
      rw [Sem.run_bind, run_underlying hu w]
      rfl
    simp [Instr.loadAt, Instr.sureAddr, loadVar, Sem.run_bind, hagg, sizeOf, typeInfo, hq, hs, hl]
theorem wpList_load_at (hgd : o.guard = none) (ty : TypeId) (x : Operand) (ho : o.op = .load ty x) (ad : Addr) (hx : a.eval x = .pointer (some ad)) (N : Nat) (f : Nat → Value) (e : TypeId)
    (hg : ∀ i, i < N → w.cell? (ad.add i) = some (f i)) (hu : P.underlying ty = some (.array N e)) (hi : (P.info? ty).map (·.size) = some N)
    (h : wpList P ops Q rest (a.put o.dst (.agg (arr N f))) w) : wpList P ops Q (o :: rest) a w := by
  refine wpList_plain hgd fun K hK => ?_
  unfold Oper.wp
  have hl := run_loadAt_cells (P := P) ty ad N f e w hg hu hi
  simp [execOp, ho, hx, hl, Result.andThen, Oper.upon]
  exact hK _ _ h
end
set_option maxRecDepth 100000 in
set_option maxHeartbeats 1000000 in
theorem writeID_any (f : Nat → UInt8) (w : World) : Calls Tryd.prog 64 #[.agg (arr 32 fun i => bv (f i))] w fun e w' => ∃ A n c, e = .returned (.slice A n c) ∧ n = (idPart (id32 f)).length ∧ RdB w' (fun b => w.heap.size ≤ b ∧ b < w'.heap.size) (.slice A n c) (idPart (id32 f)) ∧ Below w.heap.size w w' := by
  have b0 : Blk (w.alloc (.cells (arr 32 fun i => bv (f i)) 37)) w.heap.size 37 (arr 32 fun i => bv (f i)) := Blk.new _ _ _
  have heq := fun w' => eql_id f (fun _ => 0) w'
  have hz := built_zero
  have hsl : ∀ w', (Instr.sliceAt 37 (.pointer (some ⟨w.heap.size, 0, none⟩)) none none none).run Tryd.prog w' = .ok (.slice (some ⟨w.heap.size, 0, none⟩) 32 32) w' := fun w' => by kernel_rfl
  by_cases h0 : id32 f = zid
  · have hp : idPart (id32 f) = [] := by rw [idPart, if_pos h0]
    rw [hp]
    rw [id32_zero, h0, beq_self_eq_true] at heq
    obtain ⟨c, hc⟩ : ∃ c, (arr 32 fun i => bv (f i)) = c := ⟨_, rfl⟩
    have HC := Lib.hid hc
    rw [hc] at b0 heq ⊢
    clear hc
    go_enter Tryd.func64, Tryd.ntmps64
    go_wp2_with (first
      | (refine wpList_load_row rfl 37 _ rfl w.heap.size rfl 37 c (0, 0) _ b0 Tryd.underlying37 rfl (by rw [← HC.out, arr_size]; kernel_rfl) ?_)
      | (refine wpList_build rfl 37 #[] rfl (by kernel_rfl) ?_; simp only [List.map_toArray, List.map_nil]; rw [hz]))
    go_ret
    exact ⟨none, 0, 0, rfl, rfl, ⟨none, 0, rfl, Nat.le_refl _, Nat.zero_le _, fun h => absurd h (by simp)⟩, (Below.refl _ _).alloc (Nat.le_refl _) _⟩
  · have hp : idPart (id32 f) = id32 f := by rw [idPart, if_neg h0]
    rw [hp]
    have hb : (id32 f == zid) = false := by simpa using h0
    rw [id32_zero, hb] at heq
    have hrd : RdB (w.alloc (.cells (arr 32 fun i => bv (f i)) 37)) (fun b => w.heap.size ≤ b ∧ b < (w.alloc (.cells (arr 32 fun i => bv (f i)) 37)).heap.size) (.slice (some ⟨w.heap.size, 0, none⟩) 32 32) (id32 f) :=
      rdB_blk (n := 32) b0 (fun i hi => by rw [id32_getD f i hi]) (id32_length f) (by omega) (by omega) (by omega) ⟨Nat.le_refl _, by simp⟩
    have HR := Lib.hid hrd
    clear hrd
    obtain ⟨c, hc⟩ : ∃ c, (arr 32 fun i => bv (f i)) = c := ⟨_, rfl⟩
    have HC := Lib.hid hc
    rw [hc] at b0 heq HR ⊢
    clear hc
    go_enter Tryd.func64, Tryd.ntmps64
    go_wp2_with (first
      | (refine wpList_load_row rfl 37 _ rfl w.heap.size rfl 37 c (0, 0) _ b0 Tryd.underlying37 rfl (by rw [← HC.out, arr_size]; kernel_rfl) ?_)
      | (refine wpList_build rfl 37 #[] rfl (by kernel_rfl) ?_; simp only [List.map_toArray, List.map_nil]; rw [hz]))
    go_ret
    exact ⟨_, 32, 32, rfl, (id32_length f).symm, HR.out, (Below.refl _ _).alloc (Nat.le_refl _) _⟩
theorem ids_snoc (ps : List (Nat → UInt8)) (k : Nat) (h : k < ps.length) : ((ps.take (k + 1)).map id32).flatten = ((ps.take k).map id32).flatten ++ id32 (ps.getD k fun _ => 0) := by
  rw [List.take_succ_eq_append_getElem h, List.map_append, List.flatten_append, List.getD_eq_getElem?_getD, List.getElem?_eq_getElem h]
  simp
theorem ids_len (ps : List (Nat → UInt8)) : (ps.map id32).flatten.length = 32 * ps.length := by
  rw [flatten32 _ (fun p hp => by
    simp only [List.mem_map] at hp
    obtain ⟨f, _, rfl⟩ := hp
    exact id32_length f), List.length_map]
set_option maxRecDepth 100000 in
set_option maxHeartbeats 1000000 in
theorem writeIDs_any (A : Option Addr) (n c : Nat) (ps : List (Nat → UInt8)) (hn : ps.length = n) (hn2 : n ≤ 1048576) (w : World) (hr : RdI w (fun b => b < w.heap.size) A ps) :
    Calls Tryd.prog 65 #[.slice A n c] w fun e w' => ∃ v, e = .returned v ∧ w'.ownsRow w.heap.size 5 1 v (ps.map id32).flatten.length ((ps.map id32).flatten.map bv) ∧ Below w.heap.size w w' := by
  have HR := Lib.hid hr
  have HN := Lib.hid hn
  clear hr
  go_enter Tryd.func65, Tryd.ntmps65
  go_wp2
  go_loopw [3, 8] (fun v i wr => ∃ k : Nat, k ≤ n ∧ i = .int .i64 (k : Int) ∧ wr.ownsRow w.heap.size 5 1 v (32 * k) (((ps.take k).map id32).flatten.map bv) ∧ Below w.heap.size w wr) (fun _ i _ => n - (intOf i).toNat)
  case atStart => exact ⟨0, by omega, rfl, World.ownsRow_nil _ _ _ _, Below.refl _ _⟩
  case round =>
    obtain ⟨k, hk, rfl, hown, hb⟩ := hrel
    by_cases hlt : k < n
    · obtain ⟨ad, rfl, hok, hcell⟩ := (HR.out.kept (W' := wr) fun a x ha h => (hb.cell (p := a) ha).trans h) k (by rw [HN.out]; exact hlt)
      have hkn : (k : Int) < (n : Int) := by omega
      have HT := Lib.hid (ids_snoc ps k (by omega))
      obtain ⟨f, hf⟩ : ∃ f, (ps.getD k fun _ => 0) = f := ⟨_, rfl⟩
      rw [hf] at hcell HT
      clear hf
      have hbs := hb.size
      have r0 : RdB (wr.alloc (.cells (arr 32 fun i => bv (f i)) 37)) (fun b => b = wr.heap.size) (.slice (some ⟨wr.heap.size, 0, none⟩) 32 32) (id32 f) :=
        rdB_blk (n := 32) (Blk.new _ _ _) (fun i hi => by rw [id32_getD f i hi]) (id32_length f) (by omega) (by omega) (by omega) rfl
      obtain ⟨g1, cap1, w1, run1, own1, hb1, hs1⟩ := app_step (hb.alloc hbs (.cells (arr 32 fun i => bv (f i)) 37)) (by simp; omega) (hown.alloc _) r0 (by omega) (by omega)
      have hsl : ∀ w', (Instr.sliceAt 37 (.pointer (some ⟨wr.heap.size, 0, none⟩)) none none none).run Tryd.prog w' = .ok (.slice (some ⟨wr.heap.size, 0, none⟩) 32 32) w' := fun w' => by kernel_rfl
      have hcell' : Hid (∀ i, i < 32 → wr.cell? ((ad.add (32 * k)).add i) = some ((fun i => bv (f i)) i)) := Lib.hid fun i hi => by rw [add_add]; exact hcell i hi
      have hmul : 32 * k = k * 32 := Nat.mul_comm _ _
      have HM := Lib.hid hmul
      have O1 := Lib.hid own1
      have B1 := Lib.hid hb1
      have R1 := Lib.hid run1
      clear hown hb hcell r0 own1 hb1 run1 hok hmul hbs hs1
      go_wp2_with (first
        | (refine wpList_load_at rfl 37 _ rfl (ad.add (32 * k)) (by first | rfl | (rw [HM.out]; rfl)) 32 _ 5 hcell'.out Tryd.underlying37 (by kernel_rfl) ?_)
        | (refine wpList_store_row rfl 37 _ _ rfl wr.heap.size (arr 32 fun i => bv (f i)) rfl rfl 37 _ (heap_alloc_new wr _) (by rw [arr_size]; kernel_rfl) (by rw [arr_size]; rfl) (arr_all_bv _ _) ?_; rw [World.setRow_alloc_new])
        | (at_builtin; go_must (refine wpList_append_run rfl (.tmp 12) (.tmp 13) _ _ rfl _ _ rfl rfl _ _ R1.out ?_)))
      go_roundw
      case rel =>
        refine ⟨k + 1, by omega, by go_num, ?_, B1.out⟩
        rw [HT.out]
        exact O1.out
      case measure => simp [intOf]; omega
    · obtain rfl : k = n := by omega
      have e : ps.take k = ps := by rw [← HN.out]; simp
      have e2 : 32 * k = (ps.map id32).flatten.length := by rw [ids_len, HN.out]
      rw [e, e2] at hown
      have HO := Lib.hid hown
      have HB := Lib.hid hb
      clear hown hb e e2
      go_wp2
      go_ret
      exact ⟨_, rfl, HO.out, HB.out⟩
end Go.Proofs.YtkbdkeclbokhdaaDoor
namespace Go.Proofs.YtkbdkeclbokhdaaDoor
open Go Go.RowKit PackMath

theorem take_runs (ps : List (List UInt8)) (k : Nat) (h : k < ps.length) : ((ps.take (k + 1)).map run).flatten = ((ps.take k).map run).flatten ++ run (ps.getD k []) := by
  rw [List.take_succ_eq_append_getElem h, List.map_append, List.flatten_append, List.getD_eq_getElem?_getD, List.getElem?_eq_getElem h]
  simp
theorem take_runs_length (ps : List (List UInt8)) (k : Nat) : ((ps.take k).map run).flatten.length ≤ 3 * ps.length + (ps.map List.length).sum := by
  rw [runs_length]
  have h1 : (ps.take k).length ≤ ps.length := by rw [List.length_take]; omega
  have h2 : ((ps.take k).map List.length).sum ≤ (ps.map List.length).sum := by
    have := List.take_append_drop k ps
    have e : (ps.map List.length).sum = ((ps.take k).map List.length).sum + ((ps.drop k).map List.length).sum := by
      rw [← List.sum_append, ← List.map_append, this]
    omega
  omega
set_option maxRecDepth 100000 in
set_option maxHeartbeats 1000000 in
theorem writeList_any (A : Option Addr) (n c : Nat) (ps : List (List UInt8)) (hn : ps.length = n) (hn2 : n ≤ 1048576) (hs : (ps.map List.length).sum < 16777216) (w : World) (hr : RdP w (fun b => b < w.heap.size) A ps) :
    Calls Tryd.prog 66 #[.slice A n c] w fun e w' => ∃ v, e = .returned v ∧ w'.ownsRow w.heap.size 5 1 v (ps.map run).flatten.length ((ps.map run).flatten.map bv) ∧ Below w.heap.size w w' := by
  have HR := Lib.hid hr
  have HN := Lib.hid hn
  have hlong := Lib.hid (fun k => take_runs_length ps k)
  clear hr
  go_enter Tryd.func66, Tryd.ntmps66
  go_wp2
  go_loopw [3, 8] (fun v i wr => ∃ k : Nat, k ≤ n ∧ i = .int .i64 (k : Int) ∧ wr.ownsRow w.heap.size 5 1 v ((ps.take k).map run).flatten.length (((ps.take k).map run).flatten.map bv) ∧ Below w.heap.size w wr) (fun _ i _ => n - (intOf i).toNat)
  case atStart => exact ⟨0, by omega, rfl, World.ownsRow_nil _ _ _ _, Below.refl _ _⟩
  case round =>
    obtain ⟨k, hk, rfl, hown, hb⟩ := hrel
    by_cases hlt : k < n
    · obtain ⟨ad, v, rfl, hok, hcell, hread⟩ := (HR.out.kept (W' := wr) fun a x ha h => (hb.cell (p := a) ha).trans h) k (by rw [HN.out]; exact hlt)
      have hkn : (k : Int) < (n : Int) := by omega
      have htr := take_runs ps k (by omega)
      have hm24 : (ps.getD k []).length < 16777216 := by
        have := sum_le ps (ps.getD k []) (by rw [List.getD_eq_getElem?_getD, List.getElem?_eq_getElem (show k < ps.length by omega)]; simp)
        omega
      have h40 := hlong.out k
      obtain ⟨q, hq⟩ : ∃ q, ps.getD k [] = q := ⟨_, rfl⟩
      rw [hq] at htr hread hm24
      have hread' := hread
      obtain ⟨A0, c0, rfl, hc0, hn0, hcs0⟩ := hread'
      obtain ⟨m, hm⟩ : ∃ m, q.length = m := ⟨_, rfl⟩
      rw [hm] at hread hcell hm24
      obtain ⟨N, hNN⟩ : ∃ N, ((ps.take k).map run).flatten.length = N := ⟨_, rfl⟩
      rw [hNN] at hown h40
      have HNN := Lib.hid hNN
      have AR := Lib.hid (appendRun_any hb.size hown (by omega) (fun b h => h) hread hm hm24)
      have HT := Lib.hid htr
      have HB := Lib.hid hb
      have HM : Hid ((run q).length = 3 + m) := Lib.hid (by rw [run, List.length_append, hm]; rfl)
      clear hNN hown hb hread htr hq hm hc0 hn0 hcs0 h40 hm24 hok
      go_wp2_with (go_at_call 51; refine AR.out.mono ?_; rintro e w2 ⟨g2, cap2, rfl, hown2, hb2⟩)
      go_roundw
      case rel =>
        refine ⟨k + 1, by omega, by go_num, ?_, HB.out.trans hb2⟩
        have e : N + 3 + m = ((ps.take (k + 1)).map run).flatten.length := by rw [HT.out, List.length_append, HM.out, HNN.out]; omega
        rw [← e, HT.out]
        exact hown2
      case measure => simp [intOf]; omega
    · obtain rfl : k = n := by omega
      have e : ps.take k = ps := by rw [← HN.out]; simp
      rw [e] at hown
      have HO := Lib.hid hown
      have HB := Lib.hid hb
      clear hown hb
      go_wp2
      go_ret
      exact ⟨_, rfl, HO.out, HB.out⟩
end Go.Proofs.YtkbdkeclbokhdaaDoor
