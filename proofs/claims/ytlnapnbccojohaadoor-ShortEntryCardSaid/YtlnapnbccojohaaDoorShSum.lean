/-
  Rows of bytes that are put together. No conditions of their own.
  short's count and Sum: of any cut and any text of not more than 2^40 bytes, in whatever memory in which the tables lie. No condition.
  short's texts: of any entry, and of any two sums. No condition.
-/
import Derived.Test.YtlnapnbccojohaaDoorTreeGo
import Derived.Test.YtlnapnbccojohaaDoorPartBase
import Derived.Lib.SliceRun
namespace Go.Proofs.YtlnapnbccojohaaDoor
open Go Go.RowKit Go.Shelf TreeM

theorem sh_own_one (w : World) (B : Nat) (hB : B ≤ w.heap.size) (x : UInt8) : (w.alloc (.cells #[bv x] 5)).ownsRow B 5 1 (.slice (some ⟨w.heap.size, 0, none⟩) 1 1) 1 ([x].map bv) :=
  ⟨rfl, .inr ⟨w.heap.size, 1, #[bv x], rfl, hB, heap_alloc_new w _, Nat.le_refl _, by unfold maxLen; omega, rfl, rfl⟩⟩
theorem sh_app_step {B : Nat} {W w : World} (hb : Below B W w) (hB : B ≤ w.heap.size) {v : Value} {n : Nat} {bs : List UInt8} (hown : w.ownsRow B 5 1 v n (bs.map bv)) (hn : 0 < n)
    {ok : Nat → Prop} {A : Option Addr} {m c : Nat} {cs : List UInt8} (hr : RdB w ok (.slice A m c) cs) (h63 : n + m ≤ 140737488351232) :
    ∃ g cap w', (Builtin.append_ #[50, 50] 50 #[v, .slice A m c]).run Tryd.prog w = .ok (.slice (some ⟨g, 0, none⟩) (n + m) cap) w' ∧
      w'.ownsRow B 5 1 (.slice (some ⟨g, 0, none⟩) (n + m) cap) (n + m) ((bs ++ cs).map bv) ∧ Below B W w' ∧ B ≤ w'.heap.size := by
  obtain ⟨i0, hi, hz0, hz1, hz2⟩ := info_parts info_u8
  obtain ⟨v', w', hrun, hown', hgr, _⟩ := run_append_rd (P := Tryd.prog) w B 50 50 5 i0 (.int .u8 0) Tryd.underlying50 hi hz0 hz1 hz2 rfl v n _ hown ok A m c cs hr (by omega) hB
  have hb' := hb.grown hgr hB (fun k hk => (hown.lt k hk).1)
  have hs := hgr.size
  rcases ownsRow_forms' hown' with ⟨_, h0⟩ | ⟨g, cap, rfl⟩
  · omega
  · exact ⟨g, cap, w', hrun, by rw [List.map_append]; exact hown', hb', by omega⟩
theorem run_arr_end' {P : Program} (t e : TypeId) (N : Nat) (ht : P.underlying t = some (.array N e)) (hs : (P.info? e).map (·.size) = some 1) (g : Nat) :
    ∃ A, ∀ w, (Instr.sliceAt t (.pointer (some ⟨g, 0, none⟩)) (some (.int .i64 (N : Int))) none none).run P w = .ok (.slice A 0 0) w := by
  simp [Instr.sliceAt, Instr.sureAddr, run_underlying ht, Instr.sliceBounds, Instr.sliceBound, asIntOf, Sem.run_bind, size_one hs]
/-- How many bytes count. -/
def cnt (c : Int) : Nat := (min (max c 1) 32).toNat
theorem cnt_le (c : Int) : cnt c ≤ 32 := by unfold cnt; omega
theorem cnt_pos (c : Int) : 1 ≤ cnt c := by unfold cnt; omega
/-- A sum, cut. -/
def cutD (c : Int) (f : D) : D := fun i => if i < cnt c then f i else 0
theorem count_any (c : Int) (w : World) : Calls Tryd.prog 52 #[.int .i64 c] w fun e w' => e = .returned (.int .i64 (cnt c : Int)) ∧ w' = w := by
  have h : min (max c 1) 32 = (cnt c : Int) := by unfold cnt; omega
  go_enter Tryd.func52, Tryd.ntmps52
  go_wp2
  go_ret
  exact ⟨rfl, rfl⟩
/-- A sum's cells behind those that count are cleared. -/
theorem run_clear_tail (w : World) (g k : Nat) (t ty : TypeId) (f : D) (hk : k < 32) (h : Blk w g t (arr 32 fun i => bv (f i))) :
    (Builtin.clear_ #[50] ty #[.slice (some ⟨g, k, none⟩) (32 - k) (32 - k)]).run Tryd.prog w = .ok (.tuple #[]) (w.setRow g (arr 32 fun i => bv (if i < k then f i else 0))) := by
  have hzc : (Builtin.zeroCells (Value.int .u8 0).cells (32 - k)).toList = List.replicate (32 - k) (.int .u8 0) := by
    simp [Builtin.zeroCells, Value.cells]
    apply List.ext_getElem
    · simp
    · intro i h1 h2
      simp [Nat.mod_one]
  have hst := run_storeCells_at Tryd.prog g k t (List.replicate (32 - k) (.int .u8 0)) 0 (arr 32 fun i => bv (f i)) w h (by simp [arr_size]; omega) (by intro v hv'; rw [List.eq_of_mem_replicate hv']; rfl)
  simp only [Nat.add_zero, List.length_replicate] at hst
  have he : ((arr 32 fun i => bv (f i)).toList.take k ++ List.replicate (32 - k) (Value.int .u8 0) ++ (arr 32 fun i => bv (f i)).toList.drop (k + (32 - k))).toArray = arr 32 fun i => bv (if i < k then f i else 0) := by
    refine arr_of 32 _ _ (by simp [arr_size]; omega) fun i hi => ?_
    rw [List.getElem?_toArray, List.getElem?_append_left (by simp [arr_size]; omega)]
    by_cases hik : i < k
    · rw [List.getElem?_append_left (by simp [arr_size]; omega), List.getElem?_take, if_pos hik, Array.getElem?_toList, arr_get, if_pos hi, if_pos hik]
    · rw [List.getElem?_append_right (by simp [arr_size]; omega), List.getElem?_replicate, if_pos (by simp [arr_size]; omega), if_neg hik]
      rfl
  rw [he] at hst
  obtain ⟨m, hm⟩ : ∃ m, 32 - k = m + 1 := ⟨31 - k, by omega⟩
  rw [hm] at hzc hst ⊢
  simp [Builtin.clear_, run_underlying Tryd.underlying50, hzc, hst]
theorem run_clear_none (w : World) (A : Option Addr) (c : Nat) (ty : TypeId) : (Builtin.clear_ #[50] ty #[.slice A 0 c]).run Tryd.prog w = .ok (.tuple #[]) w := by
  cases A <;> simp [Builtin.clear_, run_underlying Tryd.underlying50]
theorem cutD_all (c : Int) (f : D) (h : cnt c = 32) : (arr 32 fun i => bv (cutD c f i)) = (arr 32 fun i => bv (f i)) := arr_congr fun i hi => by unfold cutD; rw [if_pos (by omega)]
section
variable {P : Program} {ops : Array Oper} {rest : List Oper} {o : Oper} {a : Act} {w : World} {Q : Exit → Act → World → Prop}
/-- A call of the builtin clear, by its run equation. -/
theorem wpList_clear_run (hgd : o.guard = none) (s : Operand) (t : TypeId) (ho : o.op = .call { callee := .builtin .clear, args := #[s], argTypes := #[t] }) (vs : Value) (hs : a.eval s = vs) (w' : World)
    (hrun : (Builtin.clear_ #[t] o.type #[vs]).run P w = .ok (.tuple #[]) w') (h : wpList P ops Q rest (a.put o.dst (.tuple #[])) w') : wpList P ops Q (o :: rest) a w :=
  wpList_plain hgd fun K hK => by
    have h' := hK _ _ h
    unfold Oper.wp
    simp [execOp, ho, resolve, invoke, builtin, hs, hrun, Result.andThen, Oper.upon]
    exact h'
end
set_option maxRecDepth 100000 in
set_option maxHeartbeats 1000000 in
theorem csum_any (c : Int) (v : Value) (L : List UInt8) (hL : L.length ≤ 1099511627776) (w : World) (hT : Tables w) (hr : RdB w (fun b => b < w.heap.size) v L) :
    Calls Tryd.prog 25 #[.int .i64 c, v] w fun e w' => e = .returned (.agg (arr 32 fun i => bv ((cutD c (sha L)) i))) ∧ Below w.heap.size w w' := by
  have hZ32 : Hid (Array.replicate 32 (bv 0) = arr 32 fun _ => bv 0) := Lib.hid (by rw [← upto_none 32 (fun _ => bv 0) (bv 0)]; exact arr_congr fun i _ => by simp)
  obtain ⟨A, cp, rfl, hlc, _⟩ := id hr
  obtain ⟨n, hn⟩ : ∃ n, L.length = n := ⟨_, rfl⟩
  rw [hn] at hr hlc hL ⊢
  have HCN := Lib.hid fun W => count_any c W
  have HOF : Hid (∀ W, Below w.heap.size w W → Blk W (w.heap.size + 1) 50 #[.slice A n cp] → Calls Tryd.prog 51 #[.slice (some ⟨w.heap.size + 1, 0, none⟩) 1 1] W fun e w' => e = .returned (shaV L) ∧ Below W.heap.size W w') := Lib.hid fun W hb0 b1 => by
    have := callsIn_wide.1 (of_any (some ⟨w.heap.size + 1, 0, none⟩) 1 [L] (by simp) (by simp; omega) W (hT.below hb0) (fun k hk => by
      obtain rfl : k = 0 := by simp at hk; omega
      exact ⟨_, _, rfl, b1.lt, by rw [add_zero_block, b1.cell, ← hn]; rfl, ((hn ▸ hr : RdB w _ (.slice A L.length cp) L).kept fun a x ha h => (hb0.cell (p := a) ha).trans h).mono fun b hb => Nat.lt_of_lt_of_le hb hb0.size⟩))
    simpa using this
  obtain ⟨S, hS⟩ : ∃ S, sha L = S := ⟨_, rfl⟩
  unfold shaV at HOF
  rw [hS] at HOF ⊢
  have hkl := cnt_le c
  have hkp := cnt_pos c
  have HCA := Lib.hid fun h => cutD_all c S h
  obtain ⟨R, hR⟩ : ∃ R, cutD c S = R := ⟨_, rfl⟩
  rw [hR] at HCA ⊢
  have HRK : Hid (∀ k, cnt c = k → R = fun i => if i < k then S i else 0) := Lib.hid fun k hk => by rw [← hR, ← hk]; rfl
  obtain ⟨k, hk⟩ : ∃ k, cnt c = k := ⟨_, rfl⟩
  rw [hk] at hkl hkp HCN
  have HRk := Lib.hid (HRK.out k hk)
  have HCk : Hid (k = 32 → (arr 32 fun i => bv (R i)) = arr 32 fun i => bv (S i)) := Lib.hid fun h => HCA.out (hk.trans h)
  clear hr hT hn hlc hL hS hR hk HRK HCA
  go_enter Tryd.func25, Tryd.ntmps25
  go_wp2_with fail
  generalize hW : World.alloc (World.alloc w _) _ = W
  have hb0 : Below w.heap.size w W := by rw [← hW]; exact ((Below.refl _ w).alloc (Nat.le_refl _) _).alloc (by simp) _
  have b1 : Blk W (w.heap.size + 1) 50 #[.slice A n cp] := by rw [← hW]; exact Blk.newAt _ _ (by simp) rfl
  have r4 : Blk W w.heap.size 23 (arr 32 fun _ => bv 0) := by rw [← hW]; exact (Blk.newAt _ _ rfl hZ32.out).alloc _
  have HR4 := Lib.hid r4
  have HB0 := Lib.hid hb0
  clear hW r4
  refine (HOF.out W hb0 b1).mono ?_
  rintro e W1 ⟨rfl, hb1⟩
  have r4 := HR4.out.below hb1 HR4.out.lt
  have HB1 := Lib.hid (HB0.out.trans (hb1.mono HB0.out.size))
  have HR1 := Lib.hid r4
  clear hb1 r4 b1 hb0
  dsimp only
  by_cases hk32 : k = 32
  · subst hk32
    obtain ⟨Ae, hAe⟩ := run_arr_end' (P := Tryd.prog) 23 5 32 Tryd.underlying23 (by kernel_rfl) W1.heap.size
    rw [show ((32 : Nat) : Int) = 32 from rfl] at HCN hAe
    have hc0 := fun ty w => run_clear_none w Ae 0 ty
    go_wp2_with (first
      | (refine wpList_store_row rfl 23 _ _ rfl W1.heap.size (arr 32 fun i => bv (S i)) rfl rfl 23 _ (heap_alloc_new W1 _) (by rw [arr_size]; kernel_rfl) (by rw [arr_size]; rfl) (arr_all_bv _ _) ?_; rw [World.setRow_alloc_new])
      | (go_at_call 52; refine (HCN.out _).mono ?_; rintro e W2 ⟨rfl, h2⟩; obtain rfl := h2.symm)
      | (refine wpList_load_arr rfl 23 _ rfl W1.heap.size rfl 23 (arr 32 fun i => bv (S i)) _ (Blk.new W1 _ _) Tryd.underlying23 rfl (by rw [arr_size]; kernel_rfl) ?_)
      | (refine wpList_store_arrW rfl 23 _ _ rfl w.heap.size (arr 32 fun i => bv (S i)) rfl rfl 23 _ (HR1.out.alloc _) (by rw [arr_size]; kernel_rfl) (by rw [arr_size]; simp [arr_size]) (arr_all_bv _ _) ?_; intro W3 hS3 hz3 hb3 hk3))
    refine bodyPost_ret (results_cell_row (p := 4) (ty := 23) rfl _ _ w.heap.size 23 _ (0, 0) _ rfl hS3 Tryd.underlying23 rfl (by rw [arr_size]; kernel_rfl)) rfl ⟨by rw [HCk.out (by first | trivial | rfl)], (HB1.out.alloc HB1.out.size _).trans hb3⟩
  · have hklt : k < 32 := by omega
    have hsl := fun W => run_arr_from (P := Tryd.prog) 23 5 32 Tryd.underlying23 (by kernel_rfl) W1.heap.size k hklt W
    have hcl := fun ty => run_clear_tail (W1.alloc (.cells (arr 32 fun i => bv (S i)) 23)) W1.heap.size k 23 ty S hklt (Blk.new W1 _ _)
    have HCL := Lib.hid hcl
    clear HCk hk32 hcl
    go_wp2_with (first
      | (refine wpList_store_row rfl 23 _ _ rfl W1.heap.size (arr 32 fun i => bv (S i)) rfl rfl 23 _ (heap_alloc_new W1 _) (by rw [arr_size]; kernel_rfl) (by rw [arr_size]; rfl) (arr_all_bv _ _) ?_; rw [World.setRow_alloc_new])
      | (go_at_call 52; refine (HCN.out _).mono ?_; rintro e W2 ⟨rfl, h2⟩; obtain rfl := h2.symm)
      | (refine wpList_clear_run rfl _ _ rfl _ rfl _ (HCL.out _) ?_; rw [World.setRow_alloc_new])
      | (refine wpList_load_arr rfl 23 _ rfl W1.heap.size rfl 23 (arr 32 fun i => bv (if i < k then S i else 0)) _ (Blk.new W1 _ _) Tryd.underlying23 rfl (by rw [arr_size]; kernel_rfl) ?_)
      | (refine wpList_store_arrW rfl 23 _ _ rfl w.heap.size (arr 32 fun i => bv (if i < k then S i else 0)) rfl rfl 23 _ (HR1.out.alloc _) (by rw [arr_size]; kernel_rfl) (by rw [arr_size]; simp [arr_size]) (arr_all_bv _ _) ?_; intro W3 hS3 hz3 hb3 hk3))
    refine bodyPost_ret (results_cell_row (p := 4) (ty := 23) rfl _ _ w.heap.size 23 _ (0, 0) _ rfl hS3 Tryd.underlying23 rfl (by rw [arr_size]; kernel_rfl)) rfl ⟨by rw [HRk.out], (HB1.out.alloc HB1.out.size _).trans hb3⟩
set_option maxRecDepth 100000 in
set_option maxHeartbeats 1000000 in
theorem entryText_any (A : Option Addr) (n c : Nat) (L : List UInt8) (hn : L.length = n) (hL : n ≤ 1099511627776) (w : World) (hr : RdB w (fun b => b < w.heap.size) (.slice A n c) L) :
    Calls Tryd.prog 61 #[.slice A n c] w fun e w' => ∃ g cap, e = .returned (.slice (some ⟨g, 0, none⟩) (n + 1) cap) ∧ RdB w' (fun b => w.heap.size ≤ b ∧ b < w'.heap.size) (.slice (some ⟨g, 0, none⟩) (n + 1) cap) (0 :: L) ∧ Below w.heap.size w w' := by
  have hb0 : Below w.heap.size w (w.alloc (.cells #[bv 0] 5)) := (Below.refl _ _).alloc (Nat.le_refl _) _
  have ho := sh_own_one w w.heap.size (Nat.le_refl _) 0
  have hr' : RdB (w.alloc (.cells #[bv 0] 5)) (fun b => b < w.heap.size) (.slice A n c) L := hr.kept fun a x ha h => (hb0.cell (p := a) ha).trans h
  obtain ⟨g, cap, w', hrun, ho', hb', _⟩ := sh_app_step hb0 hb0.size ho (by omega) hr' (by omega)
  have hrd := rdB_own ho' (by simp [hn]; omega) (by omega)
  rw [show (1 + n) = n + 1 from by omega] at hrun hrd
  have R := Lib.hid hrun
  have HE := Lib.hid (And.intro hrd hb')
  clear ho hr' hrun ho' hrd hb' hr hn hL hb0
  go_enter Tryd.func61, Tryd.ntmps61
  go_wp2_with (at_builtin; refine wpList_append_run rfl (.tmp 3) (.tmp 4) _ _ rfl _ _ rfl rfl _ _ R.out ?_)
  go_ret
  exact ⟨g, cap, rfl, HE.out.1, HE.out.2⟩
/-- A sum's bytes, as a slice of an array. -/
theorem rd_arr {W : World} {g : Nat} {f : D} (h : Blk W g 23 (arr 32 fun i => bv (f i))) : RdB W (fun b => b < W.heap.size) (.slice (some ⟨g, 0, none⟩) 32 32) (id32 f) := by
  refine ⟨some ⟨g, 0, none⟩, 32, by simp [id32], by simp [id32], by simp [id32], fun _ => ⟨⟨g, 0, none⟩, rfl, h.lt, fun j hj => ?_⟩⟩
  have hj' : j < 32 := by simpa [id32] using hj
  rw [add_zero_block, h.cell, arr_get, if_pos (by omega)]
  simp [id32, hj']
end Go.Proofs.YtlnapnbccojohaaDoor
