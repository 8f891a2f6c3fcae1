/-
  A load as one operation of a region that draws its order. Nothing here names the program. No condition.
  Plain mathematics: where whole trees begin, and how many leaves they have. Nothing here speaks of the program. No condition.
  bits.Len and tree's greatest: of every number of not more than 2^40. No condition.
  tree.Peaks: the whole trees of a list of any size of not more than 2^40, as an iterator; whoever wants no more of them. No condition.
  tree.Restore: of any size and any tops, in whatever memory. No condition.
-/
import Derived.Test.YtkkanaefngggoaaDoorRd
import Derived.Test.YtkkanaefngggoaaDoorTreeMath
import Derived.Lib.BitFns
import Derived.Lib.Strings
import Derived.Lib.Small
import Derived.Lib.Walk
import Derived.Lib.Hide
import Derived.Deep.DeepMust
import Derived.Test.YtkkanaefngggoaaDoorTreeFn
namespace Go.Proofs.YtkkanaefngggoaaDoor
open Go Go.RowKit
section
variable {P : Program} {o : Oper} {a : Act} {w : World} {K : Act → World → Prop} {Q : Exit → Act → World → Prop}
theorem oper_load (ty : TypeId) (x : Operand) (ho : o.op = .load ty x) (p v : Value) (hx : a.eval x = p) (hl : (Instr.loadAt ty p).run P w = .ok v w) (h : K (a.put o.dst v) w) : o.wp P a w K Q := by
  subst hx
  unfold Oper.wp
  simp [execOp, ho, hl, Result.andThen, Oper.upon]
  exact h
end
theorem alloc_gen {K : Act → World → Prop} {a : Act} {w : World} {o : Obj} (h : ∀ w', w'.heap[w.heap.size]? = some o → Below w.heap.size w w' → K a w') : K a (w.alloc o) := h _ (World.alloc_heap_new w o) ((Below.refl _ _).alloc (Nat.le_refl _) o)
theorem alloc_genD {K : Act → World → Prop} {a : Act} {w : World} {o : Obj} (h : ∀ w', w'.heap[w.heap.size]? = some o → Below w.heap.size w w' → K a w') : K a (w.alloc o).drew := h _ (World.alloc_heap_new w o) (((Below.refl _ _).alloc (Nat.le_refl _) o).drew)
theorem loadVar_one {P : Program} {ty : TypeId} {d : TypeDesc} {a : Addr} {v : Value} {w : World} (hu : P.underlying ty = some d) (hd : (match d with | .struct _ | .array _ _ => true | _ => false) = false) (hc : w.cell? a = some v) :
    (Go.loadVar ty a).run P w = .ok v w := by
  have hagg : (isAgg ty).run P w = .ok false w := by
    unfold isAgg
    rw [Sem.run_bind, run_underlying hu w]
    cases d <;> simp_all
  simp [loadVar, Sem.run_bind, hagg, hc, go_sem]
/-- The only result lies in a cell. -/
theorem results_one {P : Program} {fn : Func} {p : Tmp} {ty : TypeId} {d : TypeDesc} (h : fn.results = #[.cell p ty]) (tmps : Array Value) (w : World) (a : Addr) (x : Value)
    (hp : tmps.getD p undef = .pointer (some a)) (hu : P.underlying ty = some d) (hd : (match d with | .struct _ | .array _ _ => true | _ => false) = false) (hc : w.cell? a = some x) :
    (results fn tmps).run P w = .ok x w := by
  have hp' : tmps[p]?.getD undef = .pointer (some a) := by simpa using hp
  simp [results, h, hp', asAddr, loadVar_one (P := P) hu hd hc]
end Go.Proofs.YtkkanaefngggoaaDoor
namespace Go.Proofs.YtkkanaefngggoaaDoor
namespace TreeM
/-- From f on, of r leaves: each whole tree's first leaf, and how many it has. -/
def pk (f r : Nat) : List (Nat × Nat) := if _h : r = 0 then [] else (f, top2 r) :: pk (f + top2 r) (r - top2 r)
termination_by r
decreasing_by
  have := top2_pos r
  omega
theorem pk_zero (f : Nat) : pk f 0 = [] := by rw [pk]; rfl
theorem pk_cons (f : Nat) {r : Nat} (h : r ≠ 0) : pk f r = (f, top2 r) :: pk (f + top2 r) (r - top2 r) := by
  conv => lhs; rw [pk]
  rw [dif_neg h]
theorem tops_pk : ∀ (r f : Nat) (l : List D), l.length = f + r → tops (l.drop f) = (pk f r).map fun p => mth ((l.drop p.1).take p.2) := by
  intro r
  induction r using Nat.strongRecOn with
  | _ r ih =>
    intro f l hl
    have hd : (l.drop f).length = r := by rw [List.length_drop]; omega
    by_cases h : r = 0
    · subst h
      rw [List.length_eq_zero_iff.1 hd, tops_nil, pk_zero]
      rfl
    · have hne : l.drop f ≠ [] := by intro e; rw [e] at hd; simp at hd; omega
      have hp := top2_pos r
      have hle := top2_le h
      rw [tops_cons hne, pk_cons f h, hd, List.drop_drop, ih (r - top2 r) (by omega) (f + top2 r) l (by omega)]
      rfl
theorem tops_all (l : List D) : tops l = (pk 0 l.length).map fun p => mth ((l.drop p.1).take p.2) := by
  have := tops_pk l.length 0 l (by omega)
  rwa [List.drop_zero] at this
theorem pk_length (n : Nat) : (pk 0 n).length = pop n := by
  have h := tops_all (List.replicate n fun _ => 0)
  have h2 := congrArg List.length h
  rw [List.length_map, List.length_replicate, tops_length n _ (by simp)] at h2
  exact h2.symm
/-- What a part's bounds are. -/
theorem pk_mem : ∀ (r f : Nat) (p : Nat × Nat), p ∈ pk f r → f ≤ p.1 ∧ 0 < p.2 ∧ p.1 + p.2 ≤ f + r := by
  intro r
  induction r using Nat.strongRecOn with
  | _ r ih =>
    intro f p hp
    by_cases h : r = 0
    · subst h
      rw [pk_zero] at hp
      cases hp
    · have hpos := top2_pos r
      have hle := top2_le h
      rw [pk_cons f h] at hp
      rcases List.mem_cons.1 hp with rfl | hp
      · exact ⟨Nat.le_refl _, hpos, by simp only; omega⟩
      · have := ih (r - top2 r) (by omega) _ _ hp
        omega
end TreeM
end Go.Proofs.YtkkanaefngggoaaDoor
namespace Go.Proofs.YtkkanaefngggoaaDoor
open Go Go.RowKit Go.Shelf TreeM

theorem bitLen_log2 : ∀ n : Nat, n ≠ 0 → n < 2 ^ 64 → Lib.bitLen n = Nat.log2 n + 1 := by
  intro n
  induction n using Nat.strongRecOn with
  | _ n ih =>
    intro h0 h
    rw [Lib.bitLen_half n h0 h, Nat.log2_def]
    by_cases h2 : n ≥ 2
    · rw [if_pos h2, ih (n / 2) (by omega) (by omega) (by omega)]
      omega
    · rw [if_neg h2]
      obtain rfl : n = 1 := by omega
      rfl
/-- The table's byte of what is left behind a shift by s bits, and s. -/
theorem len_fin (n s : Nat) (m t : Int) (ht : t = s) (hm : m = ((n / 2 ^ s : Nat) : Int)) (h8 : n / 2 ^ s < 256) (hs : s = 0 ∨ 2 ^ s ≤ n) (hn : n < 2 ^ 64) : t + Lib.len8 m = (Lib.bitLen n : Int) := by
  subst ht hm
  have h := Lib.len8_eq ⟨n / 2 ^ s, h8⟩
  simp only at h
  rw [h]
  rcases hs with rfl | hs
  · simp
  · rw [Lib.bitLen_shift s n hs hn]
    omega
theorem len8_range (m : Int) (h0 : 0 ≤ m) (h8 : m < 256) : 0 ≤ Lib.len8 m ∧ Lib.len8 m ≤ 8 := by
  obtain ⟨k, rfl⟩ := Int.eq_ofNat_of_zero_le h0
  have h := Lib.len8_eq ⟨k, by omega⟩
  have l := Lib.bitLen_le8 ⟨k, by omega⟩
  simp only at h l
  rw [h]
  omega
theorem w64 {n : Int} (h0 : 0 ≤ n) (h1 : n ≤ 9223372036854775807) : wrap64 n = n := by unfold wrap64; omega
theorem len_wrapA (n s : Nat) (m t : Int) (ht : t = s) (hm : m = ((n / 2 ^ s : Nat) : Int)) (h8 : n / 2 ^ s < 256) (hs : 2 ^ s ≤ n) (hn : n < 2 ^ 64) : wrap64 (t + wrap64 (Lib.len8 m)) = (Lib.bitLen n : Int) := by
  have h := len_fin n s m t ht hm h8 (.inr hs) hn
  have r := len8_range m (by rw [hm]; exact Int.natCast_nonneg _) (by rw [hm]; omega)
  have hs64 : s < 64 := (Nat.pow_lt_pow_iff_right (a := 2) (by omega)).1 (Nat.lt_of_le_of_lt hs hn)
  rw [w64 r.1 (by omega), w64 (by omega) (by omega), h]
theorem len_wrap (n s : Nat) (m : Int) (_hs : s = 0) (hm : m = (n : Int)) (h8 : n < 256) (hn : n < 2 ^ 64) : wrap64 (wrap64 (Lib.len8 m)) = (Lib.bitLen n : Int) := by
  have h := len_fin n 0 m 0 rfl (by simpa using hm) (by simpa using h8) (.inl rfl) hn
  have r := len8_range m (by omega) (by omega)
  rw [w64 r.1 (by omega), w64 r.1 (by omega), ← h]
  omega
section
variable {P : Program} {ops : Array Oper} {rest : List Oper} {o : Oper} {a : Act} {w : World} {Q : Exit → Act → World → Prop}
theorem wpList_index_run (hgd : o.guard = none) (t : TypeId) (x y : Operand) (ho : o.op = .index t x y) (vx vy v : Value) (hx : a.eval x = vx) (hy : a.eval y = vy) (hr : (Instr.index t vx vy).run P w = .ok v w)
    (h : wpList P ops Q rest (a.put o.dst v) w) : wpList P ops Q (o :: rest) a w := by
  refine wpList_plain hgd fun K hK => ?_
  subst hx hy
  unfold Oper.wp
  simp [execOp, ho, hr, Result.andThen, Oper.upon]
  exact hK _ _ h
end
set_option maxHeartbeats 4000000 in
set_option maxRecDepth 100000 in
theorem len64_any (n : Nat) (w : World) (hn : n < 2 ^ 64) : Calls Tryd.prog 75 #[.int .u64 (n : Int)] w fun e w' => e = .returned (.int .i64 (Lib.bitLen n)) ∧ w' = w := by
  obtain ⟨x, hx⟩ : ∃ x : Int, (n : Int) = x := ⟨_, rfl⟩
  have h0 : 0 ≤ x := by omega
  have h1 : x ≤ 18446744073709551615 := by omega
  have HX := Lib.hid hx
  rw [hx]
  clear hx hn
  go_enter Tryd.func75, Tryd.ntmps75
  go_wp2_with (guard_target = wpList _ _ _ (Oper.mk _ (.index _ _ _) _ _ _ _ :: _) _ _; go_must (refine wpList_index_run rfl _ _ _ rfl (.string Lib.len8tab) _ _ rfl rfl (Lib.run_index_len8tab _ _ _ _ Tryd.underlying9 (by omega) (by omega)) ?_))
  all_goals (go_ret; refine ⟨congrArg Ending.returned (congrArg (Value.int IntKind.i64) ?_), rfl⟩; have hx := HX.out)
  all_goals first
    | exact len_wrap n 0 _ (by omega) (by omega) (by omega) (by omega)
    | exact len_wrapA n 8 _ _ (by omega) (by omega) (by omega) (by omega) (by omega)
    | exact len_wrapA n 16 _ _ (by omega) (by omega) (by omega) (by omega) (by omega)
    | exact len_wrapA n 24 _ _ (by omega) (by omega) (by omega) (by omega) (by omega)
    | exact len_wrapA n 32 _ _ (by omega) (by omega) (by omega) (by omega) (by omega)
    | exact len_wrapA n 40 _ _ (by omega) (by omega) (by omega) (by omega) (by omega)
    | exact len_wrapA n 48 _ _ (by omega) (by omega) (by omega) (by omega) (by omega)
    | exact len_wrapA n 56 _ _ (by omega) (by omega) (by omega) (by omega) (by omega)
/-- The greatest power of two that is at most a number. -/
theorem len_any (n : Nat) (w : World) (hn : n < 2 ^ 64) : Calls Tryd.prog 67 #[.int .u64 (n : Int)] w fun e w' => e = .returned (.int .i64 (Lib.bitLen n)) ∧ w' = w := by
  go_enter Tryd.func67, Tryd.ntmps67
  go_wp2_with (go_at_call 75; refine (len64_any n _ hn).mono ?_; rintro e w2 ⟨rfl, rfl⟩)
  go_ret
  exact ⟨rfl, rfl⟩
set_option maxHeartbeats 1000000 in
set_option maxRecDepth 100000 in
theorem greatest_any (n : Nat) (h0 : n ≠ 0) (hn : n ≤ 1099511627776) (w : World) : Calls Tryd.prog 51 #[.int .i64 (n : Int)] w fun e w' => e = .returned (.int .i64 (top2 n : Int)) ∧ w' = w := by
  have hl := bitLen_log2 n h0 (by omega)
  have hle : Nat.log2 n ≤ 40 := by
    have h1 := Nat.log2_self_le h0
    have h2 : 2 ^ Nat.log2 n < 2 ^ 41 := by omega
    have := (Nat.pow_lt_pow_iff_right (a := 2) (by omega)).1 h2
    omega
  have HL := Lib.hid (len_any n w (by omega))
  have HT : Hid (top2 n = 2 ^ Nat.log2 n) := Lib.hid rfl
  rw [hl] at HL
  have hn0 : (n : Int) ≤ 1099511627776 := by omega
  generalize Nat.log2 n = k at *
  rw [HT.out]
  clear hl HT
  go_enter Tryd.func51, Tryd.ntmps51
  go_wp2_with (go_at_call 67; refine HL.out.mono ?_; rintro e w2 ⟨rfl, rfl⟩)
  have hp : (2 ^ k : Nat) ≤ 2 ^ 40 := Nat.pow_le_pow_right (by omega) hle
  have he : wrap64 ((2 : Int) ^ k) = ((2 ^ k : Nat) : Int) := by
    rw [Int.natCast_pow]
    have e : ((2 : Nat) : Int) ^ k = ((2 ^ k : Nat) : Int) := by rw [Int.natCast_pow]
    have e2 : (2 : Int) ^ k = ((2 ^ k : Nat) : Int) := e
    rw [e2]
    exact w64 (Int.natCast_nonneg _) (by omega)
  rw [he]
  go_ret
  exact ⟨rfl, rfl⟩
end Go.Proofs.YtkkanaefngggoaaDoor
namespace Go.Proofs.YtkkanaefngggoaaDoor
open Go Go.RowKit Go.Shelf TreeM
attribute [local go_sem] Oper.semAt_some

def encPk (x : Nat × Nat) : Array Value := #[.int .i64 (x.1 : Int), .int .i64 (x.2 : Int)]
set_option maxRecDepth 100000 in
set_option maxHeartbeats 1000000 in
theorem peaks_any (n : Nat) (w : World) : CallsIn Fence.wide 0 Tryd.prog 29 #[.int .i64 (n : Int)] w fun e w' => e = .returned (.func (.func 50) #[] #[.pointer (some ⟨w.heap.size, 0, none⟩)]) ∧ w' = w.alloc (.cells #[.int .i64 (n : Int)] 3) := by
  refine callsIn_of_wp Tryd.func29 rfl trivial ?_ rfl
  simp only [Tryd.ntmps29, List.size_toArray, List.length_cons, List.length_nil, Nat.reduceAdd, Nat.reduceSub, Array.replicate_succ, Array.replicate_zero, List.push_toArray, List.append_toArray, List.nil_append, List.cons_append]
  gi_wp2
  go_ret
  exact ⟨rfl, rfl⟩
set_option maxRecDepth 100000 in
set_option maxHeartbeats 1000000 in
theorem peaks_iter (j B : Nat) (own : Nat → Prop) (J Jx : List (Nat × Nat) → World → Prop) (Bp n : Nat) (hn : n ≤ 1099511627776)
    (W : World) (_hB : B = W.heap.size) (hbox : W.cell? ⟨Bp, 0, none⟩ = some (.int .i64 (n : Int))) (hbo : ¬ own Bp)
    (hY : ∀ q x W1, (q ++ [x]) <+: pk 0 n → J q W1 → YieldAt Fence.wide 0 Tryd.prog j (encPk x) W1 fun e W' => (e = .returned (.bool true) ∧ J (q ++ [x]) W' ∧ Keep own W1 W') ∨ (e = .returned (.bool false) ∧ Jx (q ++ [x]) W'))
    (h0 : J [] W) :
    CallsIn Fence.wide 0 Tryd.prog 50 #[.func (.yield j) #[] #[], .pointer (some ⟨Bp, 0, none⟩)] W fun e W' => (∃ v, e = .returned v) ∧ (J (pk 0 n) W' ∨ ∃ q, q <+: pk 0 n ∧ q ≠ [] ∧ Jx q W') := by
  have HY := Lib.hid hY
  have H0 := Lib.hid h0
  have HBo := Lib.hid hbo
  clear hY h0
  refine callsIn_of_wp Tryd.func50 rfl trivial ?_ rfl
  simp only [Tryd.ntmps50, List.size_toArray, List.length_cons, List.length_nil, Nat.reduceAdd, Nat.reduceSub, Array.replicate_succ, Array.replicate_zero, List.push_toArray, List.append_toArray, List.nil_append, List.cons_append]
  gi_wp2
  gi_loopw [3] (fun i wr => ∃ (k : Nat) (pre : List (Nat × Nat)), k ≤ n ∧ i = .int .i64 (k : Int) ∧ pre ++ pk k (n - k) = pk 0 n ∧ J pre wr ∧ wr.cell? ⟨Bp, 0, none⟩ = some (.int .i64 (n : Int))) (fun i _ => n - (intOf i).toNat)
  case atStart => exact ⟨0, [], Nat.zero_le _, rfl, by rw [List.nil_append, Nat.sub_zero], H0.out, hbox⟩
  case round =>
    clear hbox
    obtain ⟨k, pre, hk, rfl, hpre, hJ, hbox⟩ := hrel
    by_cases hlt : k < n
    · have hkn : (k : Int) < (n : Int) := by omega
      have hn1 : (n : Int) ≤ 1099511627776 := by omega
      have hk1 : (k : Int) ≤ 1099511627776 := by omega
      have hst := pk_cons k (r := n - k) (by omega)
      have hgr := greatest_any (n - k) (by omega) (by omega)
      have hle := top2_le (n := n - k) (by omega)
      have hpos := top2_pos (n - k)
      obtain ⟨t, ht⟩ : ∃ t, top2 (n - k) = t := ⟨_, rfl⟩
      rw [ht] at hst hgr hle hpos
      have hsub : (((n - k : Nat)) : Int) = (n : Int) - (k : Int) := by omega
      rw [hsub] at hgr
      have HGR : Hid (∀ W, CallsIn Fence.wide 0 Tryd.prog 51 #[.int .i64 ((n : Int) - (k : Int))] W fun e w' => e = .returned (.int .i64 (t : Int)) ∧ w' = W) := Lib.hid fun W => callsIn_wide.2 (hgr W)
      have hpx : (pre ++ [(k, t)]) <+: pk 0 n := ⟨pk (k + t) (n - k - t), by rw [← hpre, hst, List.append_assoc]; rfl⟩
      have HNX : Hid ((pre ++ [(k, t)]) ++ pk (k + t) (n - (k + t)) = pk 0 n) := Lib.hid (by rw [← hpre, hst, List.append_assoc, show n - (k + t) = n - k - t from by omega]; rfl)
      have hR1 := HY.out pre (k, t) wr hpx hJ
      unfold encPk at hR1
      obtain ⟨fn, tmps, assign, body, hy, hR1⟩ := hR1
      have HBOX := Lib.hid hbox
      have HPX := Lib.hid hpx
      have ht1 : (t : Int) ≤ 1099511627776 := by omega
      clear hgr hst ht hpre hJ hpx
      gi_wp2_with (first
        | (refine ⟨trivial, rfl, ?_⟩; gi_at_call 51; refine (HGR.out _).mono ?_; rintro e W2 ⟨rfl, rfl⟩)
        | (refine ⟨rfl, ?_⟩; refine hR1.mono ?_; clear hR1; rintro e W' (⟨rfl, hJ', hk'⟩ | ⟨rfl, hJx'⟩)))
      · exact ⟨⟨k + t, pre ++ [(k, t)], by omega, by go_num, HNX.out, hJ', cell_keep hk' HBo.out HBOX.out⟩, by simp [intOf]; omega⟩
      · refine bodyPost_ret (results_none rfl _ _ _) rfl ?_
        exact ⟨⟨_, rfl⟩, .inr ⟨_, HPX.out, by simp, hJx'⟩⟩
    · obtain rfl : k = n := by omega
      rw [Nat.sub_self, pk_zero, List.append_nil] at hpre
      subst hpre
      have HJ0 := Lib.hid hJ
      clear hJ
      gi_wp2
      go_end0
      exact ⟨⟨_, rfl⟩, .inl HJ0.out⟩
theorem peaks_seq (own : Nat → Prop) (Bp n : Nat) (hn : n ≤ 1099511627776) (w : World) (hbox : w.cell? ⟨Bp, 0, none⟩ = some (.int .i64 (n : Int))) (hbo : ¬ own Bp) :
    SeqC Tryd.prog 50 #[.pointer (some ⟨Bp, 0, none⟩)] encPk own (pk 0 n) w := by
  intro j J Jx W hW _ _ hY h0
  have hBp : Bp < w.heap.size := block_lt_of_cell hbox
  exact peaks_iter j W.heap.size own J Jx Bp n hn W rfl ((hW.cell (p := ⟨Bp, 0, none⟩) hBp).trans hbox) hbo hY h0
end Go.Proofs.YtkkanaefngggoaaDoor
namespace Go.Proofs.YtkkanaefngggoaaDoor
open Go Go.RowKit Go.Shelf TreeM
attribute [local go_sem] Oper.semAt_some

set_option maxRecDepth 100000 in
set_option maxHeartbeats 1000000 in
/-- Of a size that no list has. -/
theorem restore_range (size : Int) (h : size < 0 ∨ 1099511627776 < size) (v : Value) (w : World) : CallsIn Fence.wide 0 Tryd.prog 30 #[.int .i64 size, v] w fun e w' => e = .returned (.tuple #[.pointer none, .int .i64 1]) ∧ w' = w := by
  by_cases h0 : size < 0
  · have d0 : decide (size < 0) = true := decide_eq_true h0
    clear h
    refine callsIn_of_wp_marks Tryd.func30 rfl trivial ?_ rfl
    simp only [Tryd.ntmps30, List.size_toArray, List.length_cons, List.length_nil, Nat.reduceAdd, Nat.reduceSub, Array.replicate_succ, Array.replicate_zero, List.push_toArray, List.append_toArray, List.nil_append, List.cons_append]
    gi_wp2
    exact ⟨_, results_tmp2 rfl _ _ _, rfl, rfl⟩
  · have d0 : decide (size < 0) = false := decide_eq_false h0
    have d1 : decide (1099511627776 < size) = true := decide_eq_true (by omega)
    clear h
    refine callsIn_of_wp_marks Tryd.func30 rfl trivial ?_ rfl
    simp only [Tryd.ntmps30, List.size_toArray, List.length_cons, List.length_nil, Nat.reduceAdd, Nat.reduceSub, Array.replicate_succ, Array.replicate_zero, List.push_toArray, List.append_toArray, List.nil_append, List.cons_append]
    gi_wp2
    exact ⟨_, results_tmp2 rfl _ _ _, rfl, rfl⟩
theorem own_mono {w : World} {B B' n k : Nat} {e : TypeId} {v : Value} {xs : List Value} (h : w.ownsRow B e k v n xs) (hB : B' ≤ B) : w.ownsRow B' e k v n xs := by
  refine ⟨h.1, ?_⟩
  rcases h.2 with h0 | ⟨g, cap, cur, rfl, h2, h3⟩
  · exact .inl h0
  · exact .inr ⟨g, cap, cur, rfl, Nat.le_trans hB h2, h3⟩
theorem Turn.putObj {S : Nat → Prop} {a w : World} (h : Turn S a w) {l : Nat} (hl : l < a.heap.size → S l) (o : Obj) : Turn S a (w.putObj l o) :=
  ⟨h.os, h.tape, h.output, by simpa [World.putObj] using h.size, fun i hi hn => (World.putObj_heap_other (by rintro rfl; exact hn (hl hi))).trans (h.block i hi hn)⟩
/-- A range that has just been laid of a row of its own. -/
theorem range_new {W W4 : World} {B n m d : Nat} {A4 : Option Addr} {c4 : Nat} {ts : List D} (ho : W4.ownsRow W.heap.size 30 32 (.slice A4 m c4) ts.length (idCells ts)) (hb : Below W.heap.size W W4) (hp : ts.length = pop n) (hn : n ≤ 1099511627776) (hD : d < W.heap.size) (hB : B ≤ W.heap.size) (o : Obj) :
    ∃ Z, RangeAt ((W4.alloc (.cells #[.int .i64 (n : Int), .slice A4 m c4] 71)).putObj d o) Z W4.heap.size n ts ∧ ∀ i, Z i → B ≤ i := by
  have hz := hb.size
  have ht : Turn (fun i => i = d) W4 ((W4.alloc (.cells #[.int .i64 (n : Int), .slice A4 m c4] 71)).putObj d o) := ((Turn.refl (fun i => i = d) W4).alloc _).putObj (fun _ => rfl) o
  refine ⟨fun i => W.heap.size ≤ i ∧ i < W4.heap.size + 1, ⟨.slice A4 m c4, ?_, own_mono (ht.own ho fun i hi => ?_) (Nat.zero_le _), ⟨hz, by omega⟩, fun i hi => ?_, fun i hi => ?_, hp, hn⟩, fun i hi => by omega⟩
  · exact (World.putObj_heap_other (by omega)).trans (Blk.new W4 71 #[.int .i64 (n : Int), .slice A4 m c4])
  · have := (ho.lt i hi).1
    omega
  · have := ho.lt i hi
    omega
  · have : ((W4.alloc (.cells #[.int .i64 (n : Int), .slice A4 m c4] 71)).putObj d o).heap.size = W4.heap.size + 1 := by simp [World.putObj]
    omega
set_option maxRecDepth 100000 in
set_option maxHeartbeats 1000000 in
theorem restore_any (n : Nat) (hn : n ≤ 1099511627776) (v : Value) (ts : List D) (w : World) (hr : RdI w (fun b => b < w.heap.size) v ts) : CallsIn Fence.wide 0 Tryd.prog 30 #[.int .i64 (n : Int), v] w fun e w' => Below w.heap.size w w' ∧
    if ts.length = pop n then ∃ g Z, e = .returned (.tuple #[.pointer (some ⟨g, 0, none⟩), .int .i64 0]) ∧ RangeAt w' Z g n ts ∧ ∀ i, Z i → w.heap.size ≤ i else e = .returned (.tuple #[.pointer none, .int .i64 60]) := by
  obtain ⟨A, c, rfl, _⟩ := id hr
  obtain ⟨m, hm⟩ : ∃ m, ts.length = m := ⟨_, rfl⟩
  obtain ⟨q, hq⟩ : ∃ q, pop n = q := ⟨_, rfl⟩
  have HQ := Lib.hid hq
  rw [hm, hq]
  have d0 : decide ((n : Int) < 0) = false := decide_eq_false (by omega)
  have d1 : decide (1099511627776 < (n : Int)) = false := decide_eq_false (by omega)
  rw [hm] at hr
  have HR := Lib.hid hr
  have HM := Lib.hid hm
  clear hr hm hq
  refine callsIn_of_wp_marks Tryd.func30 rfl trivial ?_ rfl
  simp only [Tryd.ntmps30, List.size_toArray, List.length_cons, List.length_nil, Nat.reduceAdd, Nat.reduceSub, Array.replicate_succ, Array.replicate_zero, List.push_toArray, List.append_toArray, List.nil_append, List.cons_append]
  gi_wp2_with (refine ⟨trivial, rfl, ?_⟩; gi_at_call 29; refine (peaks_any n _).mono ?_; rintro e W2 ⟨rfl, rfl⟩)
  obtain ⟨W3, hW3⟩ : ∃ W3, (w.alloc (.cells #[.int .i64 0] 3)).alloc (.cells #[.int .i64 (n : Int)] 3) = W3 := ⟨_, rfl⟩
  rw [hW3]
  have h6 : Blk W3 w.heap.size 3 #[.int .i64 0] := by rw [← hW3]; exact (Blk.new w _ _).alloc _
  have h7 : Blk W3 (w.heap.size + 1) 3 #[.int .i64 (n : Int)] := by rw [← hW3]; exact Blk.newAt _ _ (by simp) rfl
  have hb3 : Below w.heap.size w W3 := by rw [← hW3]; exact ((Below.refl _ _).alloc (Nat.le_refl _) _).alloc (by simp) _
  have hz3 : W3.heap.size = w.heap.size + 2 := by rw [← hW3]; simp
  have HZ := Lib.hid hz3
  clear hW3
  refine wpIn_rangeFunc_C (gf := 50) (lb := #[.pointer (some ⟨w.heap.size + 1, 0, none⟩)]) rfl (enters_of Tryd.func50 (by kernel_rfl) rfl)
    (peaks_seq (fun b => b = w.heap.size) (w.heap.size + 1) n hn W3 (h7.cell 0) (by omega)) (fun _ => rfl)
    (fun pre W => Blk W w.heap.size 3 #[.int .i64 (pre.length : Int)] ∧ Below w.heap.size w W)
    (fun _ _ _ => False)
    (fun s A B hs hb => ⟨hs.1.below hb (by omega), hs.2.trans (hb.mono (by omega))⟩)
    (fun _ _ _ _ hs _ => hs)
    ⟨h6, hb3⟩
    (fun x a' W => a' = { tmps := #[.int .i64 (n : Int), .slice A m c, undef, undef, .pointer none, .int .i64 0, .pointer (some ⟨w.heap.size, 0, none⟩), .int .i64 (n : Int), .bool false, .bool false, .int .i64 (n : Int), .bool false, .bool false, .int .i64 (n : Int), .func (.func 50) #[] #[.pointer (some ⟨w.heap.size + 1, 0, none⟩)], .int .i64 (x.1 : Int), .int .i64 (x.2 : Int), undef, undef, undef, undef, undef, undef, undef, undef, undef, undef, undef], defers := [] })
    (fun x a' W l o o' _ h1 h2 h3 => h3) ?assign ?body ?done ?stop
  case assign =>
    intro l pre x W K hlt hpre hi hK
    have HI := Lib.hid hi
    have HKK := Lib.hid hK
    clear hi hK h6 h7 hb3
    unfold encPk
    simp only [List.zip_toArray, List.zip_cons_cons, List.zip_nil_right, List.foldl_toArray, List.foldl_cons, List.foldl_nil, List.setIfInBounds_toArray, List.set_cons_zero, List.set_cons_succ]
    gi_wp2
    exact HKK.out _ _ (keepsFrom_of_below (Below.refl _ _)) (.refl _ _) HI.out rfl
  case body =>
    rintro l pre x a' W hl hlt hpre ⟨hS, hb⟩ rfl
    have hpl : (pre.length : Int) ≤ 1000 := by
      have h1 := ((List.prefix_append pre [x]).trans hpre).length_le
      rw [pk_length] at h1
      have := pop_le 41 n (by omega)
      omega
    have hp0 : (0 : Int) ≤ (pre.length : Int) := by omega
    have k6 := hS.cell 0
    have f6 := hS.frozen 0
    have HS := Lib.hid hS
    have HB := Lib.hid hb
    have HLL := Lib.hid (show (pre ++ [x]).length = pre.length + 1 by simp)
    clear hS hb h6 h7 hb3
    generalize pre.length = q at *
    gi_wp2
    refine ⟨keepsFrom_row HS.out (by simp [World.setCell]) (fun b hb => Below.heap_setCell _ _ _ b hb), Keep.setCell _ _ _ rfl, ?_, HB.out.setCell (by simp) _⟩
    rw [HLL.out]
    exact (HS.out.store 0 (.int .i64 ((q : Int) + 1))).same (by simp)
  case done =>
    rintro D W hD ⟨hS, hb⟩ hK
    rw [pk_length] at hS
    have hpl : pop n ≤ 1000 := by
      have := pop_le 41 n (by omega)
      omega
    rw [HQ.out] at hS hpl
    have k6 := hS.cell 0
    have HB := Lib.hid hb
    have HD := Lib.hid hK
    have HLT := Lib.hid hS.lt
    clear hb hK h6 h7 hb3
    by_cases he : m = q
    · have d6 : ((m : Int) == (q : Int)) = true := by rw [beq_iff_eq, he]
      have HCL : Hid (CallsIn Fence.wide 0 Tryd.prog 49 #[.slice A m c] W fun e w' => ∃ A4 c4, e = .returned (.slice A4 m c4) ∧ w'.ownsRow W.heap.size 30 32 (.slice A4 m c4) ts.length (idCells ts) ∧ Below W.heap.size W w') := Lib.hid (((callsIn_wide (n := 0)).2 (clone_any (.slice A m c) ts W ((HR.out.old HB.out).mono fun b hb => Nat.lt_of_lt_of_le hb HB.out.size))).mono (by
        rintro e w' ⟨v4, rfl, ho, hb⟩
        obtain ⟨A4, c4, rfl, _⟩ := own_len ho
        rw [HM.out] at ho ⊢
        exact ⟨A4, c4, rfl, ho, hb⟩))
      have HNN := Lib.hid (show ts.length = pop n by rw [HM.out, HQ.out, he])
      have d7 : ((m : Int) == (q : Int)) = true := by rw [beq_iff_eq, he]
      have HE := Lib.hid he
      clear he hS
      gi_wp2_with (refine ⟨trivial, rfl, ?_⟩; gi_at_call 49; refine HCL.out.mono ?_; rintro e W4 ⟨A4, c4, rfl, ho4, hb4⟩; have HO4 := Lib.hid ho4; have HB4 := Lib.hid hb4; clear ho4 hb4)
      have hDl : D < W.heap.size := (Array.getElem?_eq_some_iff.1 HD.out).1
      have hD5 : (W4.alloc (.cells #[.int .i64 (n : Int), .slice A4 q c4] 71)).heap[D]? = some (.deferred (some [])) := (Below.heap_alloc _ _ _ (Nat.lt_of_lt_of_le hDl HB4.out.size)).trans ((HB4.out.block D hDl).trans HD.out)
      refine ⟨by simp, .inl ⟨_, _, rfl, run_takeDeferred hD5, ?_⟩⟩
      have hO := HO4.out
      rw [HE.out] at hO
      refine ⟨_, results_tmp2 rfl _ _ _, ?_⟩
      exact ⟨below_putObj ((HB.out.trans (HB4.out.mono HB.out.size)).alloc (Nat.le_trans HB.out.size HB4.out.size) _) _ (by have := HZ.out; omega), _, rfl, range_new hO HB4.out HNN.out hn hDl HB.out.size _⟩
    · have d6 : ((m : Int) == (q : Int)) = false := by rw [beq_eq_false_iff_ne]; omega
      gi_wp2
      refine ⟨by simp, .inl ⟨_, _, rfl, run_takeDeferred HD.out, ?_⟩⟩
      exact ⟨_, results_tmp2 rfl _ _ _, below_putObj HB.out _ (by have := HZ.out; omega), rfl⟩
  case stop =>
    rintro D c pre W _ _ _ h _
    exact h.elim
end Go.Proofs.YtkkanaefngggoaaDoor
