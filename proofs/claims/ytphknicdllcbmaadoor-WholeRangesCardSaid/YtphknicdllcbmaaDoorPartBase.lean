/-
  A load as one operation of a region that draws its order; plain mathematics: where whole trees begin; bits.Len: of every number of not more than 2^40. No condition.
-/
import Derived.Test.YtphknicdllcbmaaDoorRd
import Derived.Test.YtphknicdllcbmaaDoorTreeMath
import Derived.Lib.BitFns
import Derived.Lib.Strings
import Derived.Lib.Small
import Derived.Lib.Walk
import Derived.Lib.Hide
import Derived.Deep.DeepMust
import Derived.Test.YtphknicdllcbmaaDoorTreeFn
namespace Go.Proofs.YtphknicdllcbmaaDoor
open Go Go.RowKit
section
variable {P : Program} {o : Oper} {a : Act} {w : World} {K : Act → World → Prop} {Q : Exit → Act → World → Prop}
theorem oper_load (ty : TypeId) (x : Operand) (ho : o.op = .load ty x) (p v : Value) (hx : a.eval x = p) (hl : (Instr.loadAt ty p).run P w = .ok v w) (h : K (a.put o.dst v) w) : o.wp P a w K Q := by
  subst hx
  unfold Oper.wp
  simp [execOp, ho, hl, Result.andThen, Oper.upon]
  exact h
end
theorem alloc_gen {K : Act → World → Prop} {a : Act} {w : World} {o : Obj} (h : ∀ w', w'.heap[w.heap.size]? = some o → Below w.heap.size w w' → K a w') : K a (w.alloc o) := h _ (World.alloc_heap_new w o) ((Below.refl _ _).alloc (Nat.le_refl _) o)
theorem alloc_genD {K : Act → World → Prop} {a : Act} {w : World} {o : Obj} (h : ∀ w', w'.heap[w.heap.size]? = some o → Below w.heap.size w w' → K a w') : K a (w.alloc o).drew := h _ (World.alloc_heap_new w o) (((Below.refl _ _).alloc (Nat.le_refl _) o).drew)
theorem loadVar_one {P : Program} {ty : TypeId} {d : TypeDesc} {a : Addr} {v : Value} {w : World} (hu : P.underlying ty = some d) (hd : (match d with | .struct _ | .array _ _ => true | _ => false) = false) (hc : w.cell? a = some v) :
    (Go.loadVar ty a).run P w = .ok v w := by
  have hagg : (isAgg ty).run P w = .ok false w := by
    unfold isAgg
    rw [Sem.run_bind, run_underlying hu w]
    cases d <;> simp_all
  simp [loadVar, Sem.run_bind, hagg, hc, go_sem]
/-- The only result lies in a cell. -/
theorem results_one {P : Program} {fn : Func} {p : Tmp} {ty : TypeId} {d : TypeDesc} (h : fn.results = #[.cell p ty]) (tmps : Array Value) (w : World) (a : Addr) (x : Value)
    (hp : tmps.getD p undef = .pointer (some a)) (hu : P.underlying ty = some d) (hd : (match d with | .struct _ | .array _ _ => true | _ => false) = false) (hc : w.cell? a = some x) :
    (results fn tmps).run P w = .ok x w := by
  have hp' : tmps[p]?.getD undef = .pointer (some a) := by simpa using hp
  simp [results, h, hp', asAddr, loadVar_one (P := P) hu hd hc]
end Go.Proofs.YtphknicdllcbmaaDoor
namespace Go.Proofs.YtphknicdllcbmaaDoor
namespace TreeM
/-- From f on, of r leaves: each whole tree's first leaf, and how many it has. -/
def pk (f r : Nat) : List (Nat × Nat) := if _h : r = 0 then [] else (f, top2 r) :: pk (f + top2 r) (r - top2 r)
termination_by r
decreasing_by
  have := top2_pos r
  omega
theorem pk_zero (f : Nat) : pk f 0 = [] := by rw [pk]; rfl
theorem pk_cons (f : Nat) {r : Nat} (h : r ≠ 0) : pk f r = (f, top2 r) :: pk (f + top2 r) (r - top2 r) := by
  conv => lhs; rw [pk]
  rw [dif_neg h]
theorem tops_pk : ∀ (r f : Nat) (l : List D), l.length = f + r → tops (l.drop f) = (pk f r).map fun p => mth ((l.drop p.1).take p.2) := by
  intro r
  induction r using Nat.strongRecOn with
  | _ r ih =>
    intro f l hl
    have hd : (l.drop f).length = r := by rw [List.length_drop]; omega
    by_cases h : r = 0
    · subst h
      rw [List.length_eq_zero_iff.1 hd, tops_nil, pk_zero]
      rfl
    · have hne : l.drop f ≠ [] := by intro e; rw [e] at hd; simp at hd; omega
      have hp := top2_pos r
      have hle := top2_le h
      rw [tops_cons hne, pk_cons f h, hd, List.drop_drop, ih (r - top2 r) (by omega) (f + top2 r) l (by omega)]
      rfl
theorem tops_all (l : List D) : tops l = (pk 0 l.length).map fun p => mth ((l.drop p.1).take p.2) := by
  have := tops_pk l.length 0 l (by omega)
  rwa [List.drop_zero] at this
theorem pk_length (n : Nat) : (pk 0 n).length = pop n := by
  have h := tops_all (List.replicate n fun _ => 0)
  have h2 := congrArg List.length h
  rw [List.length_map, List.length_replicate, tops_length n _ (by simp)] at h2
  exact h2.symm
/-- What a part's bounds are. -/
theorem pk_mem : ∀ (r f : Nat) (p : Nat × Nat), p ∈ pk f r → f ≤ p.1 ∧ 0 < p.2 ∧ p.1 + p.2 ≤ f + r := by
  intro r
  induction r using Nat.strongRecOn with
  | _ r ih =>
    intro f p hp
    by_cases h : r = 0
    · subst h
      rw [pk_zero] at hp
      cases hp
    · have hpos := top2_pos r
      have hle := top2_le h
      rw [pk_cons f h] at hp
      rcases List.mem_cons.1 hp with rfl | hp
      · exact ⟨Nat.le_refl _, hpos, by simp only; omega⟩
      · have := ih (r - top2 r) (by omega) _ _ hp
        omega
end TreeM
end Go.Proofs.YtphknicdllcbmaaDoor
namespace Go.Proofs.YtphknicdllcbmaaDoor
open Go Go.RowKit Go.Shelf TreeM

theorem bitLen_log2 : ∀ n : Nat, n ≠ 0 → n < 2 ^ 64 → Lib.bitLen n = Nat.log2 n + 1 := by
  intro n
  induction n using Nat.strongRecOn with
  | _ n ih =>
    intro h0 h
    rw [Lib.bitLen_half n h0 h, Nat.log2_def]
    by_cases h2 : n ≥ 2
    · rw [if_pos h2, ih (n / 2) (by omega) (by omega) (by omega)]
      omega
    · rw [if_neg h2]
      obtain rfl : n = 1 := by omega
      rfl
/-- The table's byte of what is left behind a shift by s bits, and s. -/
theorem len_fin (n s : Nat) (m t : Int) (ht : t = s) (hm : m = ((n / 2 ^ s : Nat) : Int)) (h8 : n / 2 ^ s < 256) (hs : s = 0 ∨ 2 ^ s ≤ n) (hn : n < 2 ^ 64) : t + Lib.len8 m = (Lib.bitLen n : Int) := by
  subst ht hm
  have h := Lib.len8_eq ⟨n / 2 ^ s, h8⟩
  simp only at h
  rw [h]
  rcases hs with rfl | hs
  · simp
  · rw [Lib.bitLen_shift s n hs hn]
    omega
theorem len8_range (m : Int) (h0 : 0 ≤ m) (h8 : m < 256) : 0 ≤ Lib.len8 m ∧ Lib.len8 m ≤ 8 := by
  obtain ⟨k, rfl⟩ := Int.eq_ofNat_of_zero_le h0
  have h := Lib.len8_eq ⟨k, by omega⟩
  have l := Lib.bitLen_le8 ⟨k, by omega⟩
  simp only at h l
  rw [h]
  omega
theorem w64 {n : Int} (h0 : 0 ≤ n) (h1 : n ≤ 9223372036854775807) : wrap64 n = n := by unfold wrap64; omega
theorem len_wrapA (n s : Nat) (m t : Int) (ht : t = s) (hm : m = ((n / 2 ^ s : Nat) : Int)) (h8 : n / 2 ^ s < 256) (hs : 2 ^ s ≤ n) (hn : n < 2 ^ 64) : wrap64 (t + wrap64 (Lib.len8 m)) = (Lib.bitLen n : Int) := by
  have h := len_fin n s m t ht hm h8 (.inr hs) hn
  have r := len8_range m (by rw [hm]; exact Int.natCast_nonneg _) (by rw [hm]; omega)
  have hs64 : s < 64 := (Nat.pow_lt_pow_iff_right (a := 2) (by omega)).1 (Nat.lt_of_le_of_lt hs hn)
  rw [w64 r.1 (by omega), w64 (by omega) (by omega), h]
theorem len_wrap (n s : Nat) (m : Int) (_hs : s = 0) (hm : m = (n : Int)) (h8 : n < 256) (hn : n < 2 ^ 64) : wrap64 (wrap64 (Lib.len8 m)) = (Lib.bitLen n : Int) := by
  have h := len_fin n 0 m 0 rfl (by simpa using hm) (by simpa using h8) (.inl rfl) hn
  have r := len8_range m (by omega) (by omega)
  rw [w64 r.1 (by omega), w64 r.1 (by omega), ← h]
  omega
section
variable {P : Program} {ops : Array Oper} {rest : List Oper} {o : Oper} {a : Act} {w : World} {Q : Exit → Act → World → Prop}
theorem wpList_index_run (hgd : o.guard = none) (t : TypeId) (x y : Operand) (ho : o.op = .index t x y) (vx vy v : Value) (hx : a.eval x = vx) (hy : a.eval y = vy) (hr : (Instr.index t vx vy).run P w = .ok v w)
    (h : wpList P ops Q rest (a.put o.dst v) w) : wpList P ops Q (o :: rest) a w := by
  refine wpList_plain hgd fun K hK => ?_
  subst hx hy
  unfold Oper.wp
  simp [execOp, ho, hr, Result.andThen, Oper.upon]
  exact hK _ _ h
end
set_option maxHeartbeats 4000000 in
set_option maxRecDepth 100000 in
theorem len64_any (n : Nat) (w : World) (hn : n < 2 ^ 64) : Calls Tryd.prog 62 #[.int .u64 (n : Int)] w fun e w' => e = .returned (.int .i64 (Lib.bitLen n)) ∧ w' = w := by
  obtain ⟨x, hx⟩ : ∃ x : Int, (n : Int) = x := ⟨_, rfl⟩
  have h0 : 0 ≤ x := by omega
  have h1 : x ≤ 18446744073709551615 := by omega
  have HX := Lib.hid hx
  rw [hx]
  clear hx hn
  go_enter Tryd.func62, Tryd.ntmps62
  go_wp2_with (guard_target = wpList _ _ _ (Oper.mk _ (.index _ _ _) _ _ _ _ :: _) _ _; go_must (refine wpList_index_run rfl _ _ _ rfl (.string Lib.len8tab) _ _ rfl rfl (Lib.run_index_len8tab _ _ _ _ Tryd.underlying9 (by omega) (by omega)) ?_))
  all_goals (go_ret; refine ⟨congrArg Ending.returned (congrArg (Value.int IntKind.i64) ?_), rfl⟩; have hx := HX.out)
  all_goals first
    | exact len_wrap n 0 _ (by omega) (by omega) (by omega) (by omega)
    | exact len_wrapA n 8 _ _ (by omega) (by omega) (by omega) (by omega) (by omega)
    | exact len_wrapA n 16 _ _ (by omega) (by omega) (by omega) (by omega) (by omega)
    | exact len_wrapA n 24 _ _ (by omega) (by omega) (by omega) (by omega) (by omega)
    | exact len_wrapA n 32 _ _ (by omega) (by omega) (by omega) (by omega) (by omega)
    | exact len_wrapA n 40 _ _ (by omega) (by omega) (by omega) (by omega) (by omega)
    | exact len_wrapA n 48 _ _ (by omega) (by omega) (by omega) (by omega) (by omega)
    | exact len_wrapA n 56 _ _ (by omega) (by omega) (by omega) (by omega) (by omega)
/-- The greatest power of two that is at most a number. -/
theorem len_any (n : Nat) (w : World) (hn : n < 2 ^ 64) : Calls Tryd.prog 59 #[.int .u64 (n : Int)] w fun e w' => e = .returned (.int .i64 (Lib.bitLen n)) ∧ w' = w := by
  go_enter Tryd.func59, Tryd.ntmps59
  go_wp2_with (go_at_call 62; refine (len64_any n _ hn).mono ?_; rintro e w2 ⟨rfl, rfl⟩)
  go_ret
  exact ⟨rfl, rfl⟩
theorem own_mono {w : World} {B B' n k : Nat} {e : TypeId} {v : Value} {xs : List Value} (h : w.ownsRow B e k v n xs) (hB : B' ≤ B) : w.ownsRow B' e k v n xs := by
  refine ⟨h.1, ?_⟩
  rcases h.2 with h0 | ⟨g, cap, cur, rfl, h2, h3⟩
  · exact .inl h0
  · exact .inr ⟨g, cap, cur, rfl, Nat.le_trans hB h2, h3⟩
theorem Turn.putObj {S : Nat → Prop} {a w : World} (h : Turn S a w) {l : Nat} (hl : l < a.heap.size → S l) (o : Obj) : Turn S a (w.putObj l o) :=
  ⟨h.os, h.tape, h.output, by simpa [World.putObj] using h.size, fun i hi hn => (World.putObj_heap_other (by rintro rfl; exact hn (hl hi))).trans (h.block i hi hn)⟩
end Go.Proofs.YtphknicdllcbmaaDoor