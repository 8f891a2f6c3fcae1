/-
  The reference's turn of a word, and its list of constants; for every word of 32 bits, in whatever memory.
  The reference's words: plain mathematics, 32 bits in a uint64, against the standard's words. No condition.
  The reference's sum, the innermost loop: four bytes into a word.
  The reference's sum, the schedule's loop.
  The reference's sum, the loop over the rounds of a block.
  The reference's sum, the two short loops: the state behind a block; a state's bytes.
  The reference's list of constants: in whatever memory.
-/
import Derived.Test.YtgpbpdjamimbfaaDoorProg
import Derived.Test.YtgpbpdjamimbfaaDoorOps
import Derived.WalkKit
import Derived.WalkSpells
import Derived.WalkLawsBesides
import Derived.Deep.QuietTactic
import Derived.BigQuiet
import Derived.Lib.Hide
import Derived.Test.YtgpbpdjamimbfaaDoorMath
import Derived.Test.YtgpbpdjamimbfaaDoorFrame
import Derived.StillTailTactics
import Derived.Outline
namespace Go.Proofs.YtgpbpdjamimbfaaDoor
open Go Go.RowKit

/-- A word as the reference has it: 32 bits in a uint64. -/
def u6 (x : W32) : Value := .int .u64 (x.toNat : Int)

theorem turn_w (x : W32) (n : Nat) (h0 : 1 ≤ n) (h1 : n ≤ 31) : (bits .or .u64 ((x.toNat : Int) / 2 ^ n) (IntKind.u64.wrap ((x.toNat : Int) * 2 ^ (32 - n)))).tmod 4294967296 = ((rr x n).toNat : Int) := by
  have hx := x.isLt
  have e1 : ((x.toNat : Int) / 2 ^ n) = ((x.toNat / 2 ^ n : Nat) : Int) := by simp
  have hle : x.toNat * 2 ^ (32 - n) < 18446744073709551616 := by
    have h2 : 2 ^ (32 - n) ≤ 2 ^ 31 := Nat.pow_le_pow_right (by omega) (by omega)
    have h3 : x.toNat * 2 ^ (32 - n) ≤ 4294967295 * 2 ^ 31 := Nat.mul_le_mul (by omega) h2
    omega
  have e2 : IntKind.u64.wrap ((x.toNat : Int) * 2 ^ (32 - n)) = ((x.toNat * 2 ^ (32 - n) : Nat) : Int) := by
    rw [IntKind.wrap_u64]
    have : ((x.toNat : Int) * 2 ^ (32 - n)) = ((x.toNat * 2 ^ (32 - n) : Nat) : Int) := by simp
    rw [this]
    omega
  have hd : x.toNat / 2 ^ n < 18446744073709551616 := Nat.lt_of_le_of_lt (Nat.div_le_self _ _) (by omega)
  rw [e1, e2, u64_or_nat _ _ hd hle, Int.tmod_eq_emod_of_nonneg (by omega)]
  have e3 : ((((x.toNat / 2 ^ n) ||| (x.toNat * 2 ^ (32 - n)) : Nat) : Int) % 4294967296) = ((((x.toNat / 2 ^ n) ||| (x.toNat * 2 ^ (32 - n))) % 4294967296 : Nat) : Int) := by simp
  rw [e3]
  congr 1
  rw [rr, BitVec.rotateRight_def, Nat.mod_eq_of_lt (by omega : n < 32), BitVec.toNat_or, BitVec.toNat_ushiftRight, BitVec.toNat_shiftLeft, Nat.shiftRight_eq_div_pow, Nat.shiftLeft_eq]
  rw [show (4294967296 : Nat) = 2 ^ 32 from rfl, Nat.or_mod_two_pow]
  congr 1
  exact Nat.mod_eq_of_lt (Nat.lt_of_le_of_lt (Nat.div_le_self _ _) (by omega))

set_option maxHeartbeats 400000 in
theorem turn_any (x : W32) (n : Nat) (h0 : 1 ≤ n) (h1 : n ≤ 31) (w : World) :
    Calls Tryd.prog 73 #[.int .u64 (x.toNat : Int), .int .i64 (n : Int)] w fun e w' => e = .returned (.int .u64 ((rr x n).toNat : Int)) ∧ ∃ k, w' = w.drewN k := by
  have hw := turn_w x n h0 h1
  have e1 : IntKind.i64.wrap (32 - (n : Int)) = ((32 - n : Nat) : Int) := by rw [IntKind.wrap_i64]; omega
  go_enter Tryd.func73, Tryd.ntmps73
  go_wp2
  go_quiet (fail)
  go_wp2
  go_ret
  exact ⟨rfl, _, rfl⟩
theorem turn_k (x : W32) (k : Int) (h0 : 1 ≤ k) (h1 : k ≤ 31) (w : World) :
    Calls Tryd.prog 73 #[.int .u64 (x.toNat : Int), .int .i64 k] w fun e w' => e = .returned (.int .u64 ((rr x k.toNat).toNat : Int)) ∧ ∃ n, w' = w.drewN n := by
  obtain ⟨n, rfl⟩ := Int.eq_ofNat_of_zero_le (show 0 ≤ k by omega)
  exact turn_any x n (by omega) (by omega) w
end Go.Proofs.YtgpbpdjamimbfaaDoor
namespace Go.Proofs.YtgpbpdjamimbfaaDoor
open Go

/-- A word of a block, its first c bytes read. -/
def part (b : Nat → UInt8) (i : Nat) : Nat → Nat
  | 0 => 0
  | c + 1 => part b i c * 256 + (b (4 * i + c)).toNat
theorem part_lt (b : Nat → UInt8) (i c : Nat) : part b i c < 256 ^ c := by
  induction c with
  | zero => simp [part]
  | succ c ih =>
    have := (b (4 * i + c)).toNat_lt
    rw [part, Nat.pow_succ]
    omega
theorem part_lt4 (b : Nat → UInt8) (i c : Nat) (h : c ≤ 4) : part b i c < 4294967296 :=
  Nat.lt_of_lt_of_le (part_lt b i c) (Nat.le_trans (Nat.pow_le_pow_right (by omega) h) (by decide))
theorem part_lt3 (b : Nat → UInt8) (i c : Nat) (h : c < 4) : part b i c < 16777216 :=
  Nat.lt_of_lt_of_le (part_lt b i c) (Nat.le_trans (Nat.pow_le_pow_right (by omega) (show c ≤ 3 by omega)) (by decide))
theorem or_add (a b n : Nat) (h : b < 2 ^ n) : a <<< n ||| b = a * 2 ^ n + b := by
  rw [← Nat.shiftLeft_add_eq_or_of_lt h, Nat.shiftLeft_eq]
theorem part_word (b : Nat → UInt8) (i : Nat) : part b i 4 = (word b i).toNat := by
  have h0 := (b (4 * i)).toNat_lt
  have h1 := (b (4 * i + 1)).toNat_lt
  have h2 := (b (4 * i + 2)).toNat_lt
  have h3 := (b (4 * i + 3)).toNat_lt
  simp only [part, word, ro, sl, BitVec.toNat_or, BitVec.toNat_shiftLeft, w8_toNat, Nat.add_zero]
  generalize (b (4 * i)).toNat = x0 at *
  generalize (b (4 * i + 1)).toNat = x1 at *
  generalize (b (4 * i + 2)).toNat = x2 at *
  generalize (b (4 * i + 3)).toNat = x3 at *
  rw [Nat.mod_eq_of_lt (show x0 <<< 24 < 2 ^ 32 by rw [Nat.shiftLeft_eq]; omega), Nat.mod_eq_of_lt (show x1 <<< 16 < 2 ^ 32 by rw [Nat.shiftLeft_eq]; omega), Nat.mod_eq_of_lt (show x2 <<< 8 < 2 ^ 32 by rw [Nat.shiftLeft_eq]; omega)]
  rw [or_add x0 (x1 <<< 16) 24 (by rw [Nat.shiftLeft_eq]; omega), Nat.shiftLeft_eq x1]
  rw [show x0 * 2 ^ 24 + x1 * 2 ^ 16 = (x0 * 256 + x1) <<< 16 from by rw [Nat.shiftLeft_eq]; omega, or_add _ (x2 <<< 8) 16 (by rw [Nat.shiftLeft_eq]; omega), Nat.shiftLeft_eq x2]
  rw [show (x0 * 256 + x1) * 2 ^ 16 + x2 * 2 ^ 8 = ((x0 * 256 + x1) * 256 + x2) <<< 8 from by rw [Nat.shiftLeft_eq]; omega, or_add _ x3 8 (by omega)]
  omega

theorem w_lt (x : W32) : ((x.toNat : Nat) : Int) < 4294967296 := by have := x.isLt; omega
theorem w_lt64 (x : W32) : x.toNat < 18446744073709551616 := by have := x.isLt; omega
theorem xor6 (x y : W32) : bits .xor .u64 (x.toNat : Int) (y.toNat : Int) = ((xo x y).toNat : Int) := by rw [u64_xor_nat _ _ (w_lt64 x) (w_lt64 y), xo, BitVec.toNat_xor]
theorem and6 (x y : W32) : bits .and .u64 (x.toNat : Int) (y.toNat : Int) = ((an x y).toNat : Int) := by rw [u64_and_nat _ _ (w_lt64 x) (w_lt64 y), an, BitVec.toNat_and]
theorem or6 (x y : W32) : bits .or .u64 (x.toNat : Int) (y.toNat : Int) = ((ro x y).toNat : Int) := by rw [u64_or_nat _ _ (w_lt64 x) (w_lt64 y), ro, BitVec.toNat_or]
theorem not6 (x : W32) : (4294967295 - (x.toNat : Int)) = ((no x).toNat : Int) := by
  have := x.isLt
  rw [no, BitVec.toNat_not]
  omega
theorem not6' (x : W32) : IntKind.u64.wrap (4294967295 - (x.toNat : Int)) = ((no x).toNat : Int) := by
  rw [not6, IntKind.wrap_u64]
  have := (no x).isLt
  omega
theorem ch_eq (e f g : W32) : ro (an e f) (an (no e) g) = xo (an e f) (an (no e) g) := by
  unfold ro an no xo
  apply BitVec.eq_of_getLsbD_eq
  intro i hi
  simp only [BitVec.getLsbD_or, BitVec.getLsbD_xor, BitVec.getLsbD_and, BitVec.getLsbD_not, hi, decide_true, Bool.true_and]
  cases e.getLsbD i <;> simp
theorem maj_eq (a b c : W32) : ro (ro (an a b) (an a c)) (an b c) = xo (xo (an a b) (an a c)) (an b c) := by
  unfold ro an xo
  apply BitVec.eq_of_getLsbD_eq
  intro i hi
  simp only [BitVec.getLsbD_or, BitVec.getLsbD_xor, BitVec.getLsbD_and]
  cases a.getLsbD i <;> cases b.getLsbD i <;> cases c.getLsbD i <;> rfl
theorem add4 (a b c d : W32) : ((a.toNat : Int) + (b.toNat : Int) + (c.toNat : Int) + (d.toNat : Int)) % 4294967296 = ((ad (ad (ad a b) c) d).toNat : Int) := by
  simp only [ad, BitVec.toNat_add]
  omega
theorem add2 (a b : W32) : ((a.toNat : Int) + (b.toNat : Int)) % 4294967296 = ((ad a b).toNat : Int) := by
  simp only [ad, BitVec.toNat_add]
  omega
/-- What the reference calls one and two, unreduced. -/
theorem one_two (s : St) (k w : W32) : ((s.h.toNat : Int) + ((big1 s.e).toNat : Int) + ((ro (an s.e s.f) (an (no s.e) s.g)).toNat : Int) + (k.toNat : Int) + (w.toNat : Int) + (((big0 s.a).toNat : Int) + ((ro (ro (an s.a s.b) (an s.a s.c)) (an s.b s.c)).toNat : Int))) % 4294967296 = ((step s k w).a.toNat : Int) := by
  rw [ch_eq, maj_eq]
  simp only [step, stepOne, stepTwo, ad, BitVec.toNat_add]
  omega
theorem three_one (s : St) (k w : W32) : ((s.d.toNat : Int) + ((s.h.toNat : Int) + ((big1 s.e).toNat : Int) + ((ro (an s.e s.f) (an (no s.e) s.g)).toNat : Int) + (k.toNat : Int) + (w.toNat : Int))) % 4294967296 = ((step s k w).e.toNat : Int) := by
  rw [ch_eq]
  simp only [step, stepOne, stepTwo, ad, BitVec.toNat_add]
  omega
end Go.Proofs.YtgpbpdjamimbfaaDoor
namespace Go.Proofs.YtgpbpdjamimbfaaDoor
open Go Go.RowKit

noncomputable def refLoop (k : Nat) : Code := ((Tryd.f61.body.map loopsIn).getD []).getD k .skip

/-- The locals that the loops read and never write. -/
def Loc (f : Nat → Value) (r gk gh : Nat) (S : ByteArray) (j : Nat) : Prop :=
  f 2 = .pointer (some ⟨r, 0, none⟩) ∧ f 3 = .string S ∧ f 4 = .slice (some ⟨gk, 0, none⟩) 64 64 ∧ f 5 = .int .u64 4294967296 ∧ f 6 = .slice (some ⟨gh, 0, none⟩) 8 8 ∧ f 7 = .int .i64 (64 * (j : Int))

/-- The schedule's row with so many words, and so many bytes of the next. -/
def wRow (b : Nat → UInt8) (i c : Nat) : Array Value := arr 64 fun t => if t < i then u6 (wv b t) else if t = i then .int .u64 (part b i c : Nat) else .int .u64 0
theorem wRow_step (b : Nat → UInt8) (i c : Nat) (hi : i < 64) : (wRow b i c).setIfInBounds i (.int .u64 (part b i (c + 1) : Nat)) = wRow b i (c + 1) := by
  unfold wRow
  rw [arr_set _ _ _ _ hi]
  refine arr_congr fun t _ => ?_
  by_cases h : t = i
  · subst h; simp
  · simp [h]
theorem wRow_at (b : Nat → UInt8) (i c : Nat) (hi : i < 64) : (wRow b i c)[i]? = some (.int .u64 (part b i c : Nat)) := by simp [wRow, arr_get, hi]

theorem run_index_str {P : Program} (t : TypeId) (ht : P.underlying t = some .string) (l : List UInt8) (x : Int) (k : Nat) (hx : x = (k : Int)) (hk : k < l.length) (w : World) :
    (Instr.index t (.string ⟨l.toArray⟩) (.int .i64 x)).run P w = .ok (bv (l.getD k 0)) w := by
  subst hx
  have h1 : k < (⟨l.toArray⟩ : ByteArray).size := by simpa [ByteArray.size] using hk
  have h2 : (k : Int) < ((⟨l.toArray⟩ : ByteArray).size : Int) := by omega
  simp [Instr.index, asIntOf, run_underlying ht, Sem.run_bind, h1, hk, bv, List.getD_eq_getElem?_getD]
  rfl

def InvC (r gk gh : Nat) (S : ByteArray) (j i gw : Nat) (b : Nat → UInt8) (W : World) (n : Nat) (f : Nat → Value) (w : World) : Prop :=
  Loc f r gk gh S j ∧ f 8 = .slice (some ⟨gw, 0, none⟩) 64 64 ∧ f 9 = .int .i64 (i : Int) ∧ ∃ c, c + n = 4 ∧ f 10 = .int .i64 (c : Int) ∧ Blk w gw 128 (wRow b i c) ∧ W.grownBy w (some gw)

set_option maxRecDepth 1000000 in
set_option maxHeartbeats 1000000 in
theorem loopC (Q : Exit → Act → World → Prop) (f : Nat → Value) (r gk gh : Nat) (S : ByteArray) (j i gw : Nat) (b : Nat → UInt8) (W : World) (hi : i < 16) (hj : j < 17179869190)
    (hSi : ∀ c, c < 4 → ∀ x : Int, x = ((64 * j + (4 * i + c) : Nat) : Int) → ∀ w', (Instr.index 9 (.string S) (.int .i64 x)).run Tryd.prog w' = .ok (bv (b (4 * i + c))) w')
    (h0 : InvC r gk gh S j i gw b W 4 f W)
    (hexit : ∀ f' w', InvC r gk gh S j i gw b W 0 f' w' → Q (.exit 4) ⟨arr 272 f', []⟩ w') :
    (Code.loop (refLoop 2)).wp Tryd.prog Q ⟨arr 272 f, []⟩ W := by
  refine wp_loop_frame (fun n f w => InvC r gk gh S j i gw b W n f w) 4 f h0 ?_
  clear h0 f
  intro n f w ⟨⟨h2, h3, h4, h5, h6, h7⟩, h8, h9, c, hc, h10, hB, hG⟩
  rw [lit272, h2, h3, h4, h5, h6, h7, h8, h9, h10]
  clear h2 h3 h4 h5 h6 h7 h8 h9 h10
  have HX := Lib.hid hexit
  have HSi := Lib.hid hSi
  have HB := Lib.hid hB
  have HG := Lib.hid hG
  clear hexit hSi hB hG
  conv => arg 2; whnf
  by_cases hlt : c < 4
  · have hcell := HB.out.cell i
    have hfr := HB.out.frozen i
    rw [wRow_at b i c (by omega)] at hcell
    have hix : ∀ w', (Instr.index 9 (.string S) (.int .i64 (64 * (j : Int) + 4 * (i : Int) + (c : Int)))).run Tryd.prog w' = .ok (.int .u8 ((b (4 * i + c)).toNat : Int)) w' := HSi.out c hlt (64 * (j : Int) + 4 * (i : Int) + (c : Int)) (by omega)
    have hp := part_lt3 b i c hlt
    have hby := (b (4 * i + c)).toNat_lt
    generalize hP : part b i c = p at *
    generalize hY : b (4 * i + c) = y at *
    have HP := Lib.hid hP
    have HY := Lib.hid hY
    clear hP hY
    have i0 : (0 : Int) ≤ (i : Int) := by omega
    have i1 : (i : Int) < 64 := by omega
    have t1 : IntKind.i64.wrap (4 * (i : Int)) = 4 * (i : Int) := by rw [IntKind.wrap_i64]; omega
    have t2 : IntKind.i64.wrap (64 * (j : Int) + 4 * (i : Int)) = 64 * (j : Int) + 4 * (i : Int) := by rw [IntKind.wrap_i64]; omega
    have t3 : IntKind.i64.wrap (64 * (j : Int) + 4 * (i : Int) + (c : Int)) = 64 * (j : Int) + 4 * (i : Int) + (c : Int) := by rw [IntKind.wrap_i64]; omega
    have t4 : IntKind.u64.wrap ((p : Int) * 256) = (p : Int) * 256 := by rw [IntKind.wrap_u64]; omega
    have t5 : IntKind.u64.wrap (y.toNat : Int) = (y.toNat : Int) := by rw [IntKind.wrap_u64]; omega
    have t6 : IntKind.u64.wrap ((p : Int) * 256 + (y.toNat : Int)) = (p : Int) * 256 + (y.toNat : Int) := by rw [IntKind.wrap_u64]; omega
    go_wp2
    go_still_tail 18, rfl
    change wpList _ _ _ _ _ w.drew
    go_wp2
    refine frame_end rfl (n - 1) (by omega) ⟨⟨rfl, rfl, rfl, rfl, rfl, rfl⟩, rfl, rfl, c + 1, by omega, by show Value.int .i64 ((c : Int) + 1) = _; go_num, ?_, only_drew (only_setCell HG.out (.inl rfl) _)⟩
    refine ((HB.out.store i _).same ?_).drew
    rw [← wRow_step b i c (by omega), part, HP.out, HY.out]
    congr 2
  · obtain rfl : c = 4 := by omega
    obtain rfl : n = 0 := by omega
    go_wp2
    refine exit_end rfl HX.out ⟨⟨rfl, rfl, rfl, rfl, rfl, rfl⟩, rfl, rfl, 4, rfl, rfl, HB.out, HG.out⟩
theorem loop_at {P : Program} {Q : Exit → Act → World → Prop} {c : Code} {w : World} {xs : Array Value} (N : Nat) (hs : xs.size = N) (h : c.wp P Q ⟨arr N (fun i => xs.getD i undef), []⟩ w) : c.wp P Q ⟨xs, []⟩ w := by
  rwa [← arr_getD xs hs] at h
end Go.Proofs.YtgpbpdjamimbfaaDoor
namespace Go.Proofs.YtgpbpdjamimbfaaDoor
open Go Go.RowKit
attribute [local go_sem] xor6 and6 or6 shr_w3 shr_w10

theorem wRow_16 (b : Nat → UInt8) (k : Nat) (h : k < 16) : wRow b k 4 = wRow b (k + 1) 0 := by
  refine arr_congr fun t _ => ?_
  by_cases h1 : t < k
  · rw [if_pos h1, if_pos (by omega)]
  · rw [if_neg h1]
    by_cases h2 : t = k
    · subst h2
      rw [if_pos rfl, if_pos (by omega), part_word, wv_first b t h]
      rfl
    · rw [if_neg h2, if_neg (by omega)]
      by_cases h3 : t = k + 1
      · rw [if_pos h3]; rfl
      · rw [if_neg h3]
theorem wRow_64 (b : Nat → UInt8) (k : Nat) (h : k < 64) : (wRow b k 0).setIfInBounds k (u6 (wv b k)) = wRow b (k + 1) 0 := by
  unfold wRow
  rw [arr_set _ _ _ _ h]
  refine arr_congr fun t _ => ?_
  by_cases h2 : t = k
  · subst h2; simp
  · rw [if_neg h2]
    by_cases h1 : t < k
    · rw [if_pos h1, if_pos (by omega)]
    · rw [if_neg h1, if_neg h2, if_neg (by omega)]
      by_cases h3 : t = k + 1
      · rw [if_pos h3]; rfl
      · rw [if_neg h3]
theorem wRow_lo (b : Nat → UInt8) (i c t : Nat) (h : t < i) (hi : i ≤ 64) : (wRow b i c)[t]? = some (.int .u64 ((wv b t).toNat : Int)) := by
  simp [wRow, arr_get, h, show t < 64 by omega, u6]
theorem wRow_full (b : Nat → UInt8) (c : Nat) : wRow b 64 c = arr 64 fun i => u6 (wv b i) := arr_congr fun i hi => by simp [hi]

def InvW (r gk gh : Nat) (S : ByteArray) (j gw : Nat) (b : Nat → UInt8) (W : World) (n : Nat) (f : Nat → Value) (w : World) : Prop :=
  Loc f r gk gh S j ∧ f 8 = .slice (some ⟨gw, 0, none⟩) 64 64 ∧ ∃ k, k + n = 64 ∧ f 9 = .int .i64 (k : Int) ∧ Blk w gw 128 (wRow b k 0) ∧ W.grownBy w (some gw)

set_option maxRecDepth 1000000 in
set_option maxHeartbeats 1000000 in
theorem roundW1 (Q : Exit → Act → World → Prop) (f : Nat → Value) (r gk gh : Nat) (S : ByteArray) (j gw : Nat) (b : Nat → UInt8) (W w : World) (hj : j < 17179869190)
    (hSi : ∀ i, i < 64 → ∀ x : Int, x = ((64 * j + i : Nat) : Int) → ∀ w', (Instr.index 9 (.string S) (.int .i64 x)).run Tryd.prog w' = .ok (bv (b i)) w')
    (n k : Nat) (hk : k + n = 64) (hlt : k < 16) (h2 : Loc f r gk gh S j) (h8 : f 8 = .slice (some ⟨gw, 0, none⟩) 64 64) (h9 : f 9 = .int .i64 (k : Int)) (hB : Blk w gw 128 (wRow b k 0)) (hG : W.grownBy w (some gw)) :
    (refLoop 1).wp Tryd.prog (Exit.then (Next 272 (InvW r gk gh S j gw b W) n) Q) ⟨arr 272 f, []⟩ w := by
  obtain ⟨h2, h3, h4, h5, h6, h7⟩ := h2
  rw [lit272, h2, h3, h4, h5, h6, h7, h8, h9]
  clear h2 h3 h4 h5 h6 h7 h8 h9
  have HSi := Lib.hid hSi
  have HB := Lib.hid hB
  have HG := Lib.hid hG
  clear hSi hB hG
  conv => arg 2; whnf
  have l1 : decide ((k : Int) < 16) = true := by simp; omega
  have l2 : decide ((k : Int) < 64) = true := by simp; omega
  go_wp2
  refine loop_at 272 rfl (loopC _ _ r gk gh S j k gw b w hlt hj (fun c hc x hx w' => HSi.out (4 * k + c) (by omega) x hx w') ⟨⟨rfl, rfl, rfl, rfl, rfl, rfl⟩, rfl, rfl, 0, rfl, rfl, HB.out, World.grownBy.refl _ _⟩ ?_)
  rintro f' w' ⟨⟨h2, h3, h4, h5, h6, h7⟩, h8, h9, c, hc, h10, hB, hG⟩
  obtain rfl : c = 4 := by omega
  rw [lit272 f', h2, h3, h4, h5, h6, h7, h8, h9, h10]
  have HB2 := Lib.hid hB
  have HG2 := Lib.hid hG
  clear h2 h3 h4 h5 h6 h7 h8 h9 h10 hB hG
  go_wp2
  exact frame_end rfl (n - 1) (by omega) ⟨⟨rfl, rfl, rfl, rfl, rfl, rfl⟩, rfl, k + 1, by omega, by show Value.int .i64 ((k : Int) + 1) = _; go_num, HB2.out.same (wRow_16 b k hlt), HG.out.trans HG2.out⟩

set_option maxRecDepth 1000000 in
set_option maxHeartbeats 1000000 in
theorem roundW2 (Q : Exit → Act → World → Prop) (f : Nat → Value) (r gk gh : Nat) (S : ByteArray) (j gw : Nat) (b : Nat → UInt8) (W w : World)
    (n k : Nat) (hk : k + n = 64) (hlt : 16 ≤ k) (hl2 : k < 64) (h2 : Loc f r gk gh S j) (h8 : f 8 = .slice (some ⟨gw, 0, none⟩) 64 64) (h9 : f 9 = .int .i64 (k : Int)) (hB : Blk w gw 128 (wRow b k 0)) (hG : W.grownBy w (some gw)) :
    (refLoop 1).wp Tryd.prog (Exit.then (Next 272 (InvW r gk gh S j gw b W) n) Q) ⟨arr 272 f, []⟩ w := by
  obtain ⟨h2, h3, h4, h5, h6, h7⟩ := h2
  rw [lit272, h2, h3, h4, h5, h6, h7, h8, h9]
  clear h2 h3 h4 h5 h6 h7 h8 h9
  have HB := Lib.hid hB
  have HG := Lib.hid hG
  conv => arg 2; whnf
  have l1 : decide ((k : Int) < 16) = false := by simp; omega
  have l2 : decide ((k : Int) < 64) = true := by simp; omega
  have c1 := hB.cell (k - 15)
  have c2 := hB.cell (k - 2)
  have c3 := hB.cell (k - 16)
  have c4 := hB.cell (k - 7)
  have c5 := hB.cell k
  have f5 := hB.frozen k
  rw [wRow_lo _ _ _ _ (by omega) (by omega)] at c1 c2 c3 c4
  rw [wRow_at _ _ _ (by omega)] at c5
  have e1 : IntKind.i64.wrap ((k : Int) - 15) = (k : Int) - 15 := IntWalk.i64_in _ (by omega)
  have e2 : IntKind.i64.wrap ((k : Int) - 2) = (k : Int) - 2 := IntWalk.i64_in _ (by omega)
  have e3 : IntKind.i64.wrap ((k : Int) - 16) = (k : Int) - 16 := IntWalk.i64_in _ (by omega)
  have e4 : IntKind.i64.wrap ((k : Int) - 7) = (k : Int) - 7 := IntWalk.i64_in _ (by omega)
  have b1 : (15 : Int) ≤ (k : Int) := by omega
  have b2 : (2 : Int) ≤ (k : Int) := by omega
  have b3 : (16 : Int) ≤ (k : Int) := by omega
  have b4 : (7 : Int) ≤ (k : Int) := by omega
  have d1 : (k : Int) - 15 < 64 := by omega
  have d2 : (k : Int) - 2 < 64 := by omega
  have d3 : (k : Int) - 16 < 64 := by omega
  have d4 : (k : Int) - 7 < 64 := by omega
  have d5 : (k : Int) < 64 := by omega
  have t1 : ((k : Int) - 15).toNat = k - 15 := by omega
  have t2 : ((k : Int) - 2).toNat = k - 2 := by omega
  have t3 : ((k : Int) - 16).toNat = k - 16 := by omega
  have t4 : ((k : Int) - 7).toNat = k - 7 := by omega
  clear hB hG
  go_wp2
  go_quiet (fail)
  rw [← World.cell?_drewN (n := nq)] at c3 c4 c5
  rw [← World.frozen?_drewN (n := nq)] at f5
  have HB1 := Lib.hid (HB.out.drewN nq)
  have HG1 := Lib.hid (only_drewN HG.out nq)
  clear c1 c2 HB HG
  generalize w.drewN nq = w2 at *
  go_wp2_with (go_at_call 73; refine (turn_k _ _ (by omega) (by omega) _).mono ?_; rintro e w' ⟨rfl, nt, rfl⟩)
  have hnx := wv_next b k hlt
  have l3 : xo (xo (rr (wv b (k - 15)) 7) (rr (wv b (k - 15)) 18)) (sr (wv b (k - 15)) 3) = low (wv b (k - 15)) := rfl
  have l4 : xo (xo (rr (wv b (k - 2)) 17) (rr (wv b (k - 2)) 19)) (sr (wv b (k - 2)) 10) = high (wv b (k - 2)) := rfl
  rw [← l3, ← l4] at hnx
  clear l3 l4
  generalize xo (xo (rr (wv b (k - 15)) 7) (rr (wv b (k - 15)) 18)) (sr (wv b (k - 15)) 3) = lo at *
  generalize xo (xo (rr (wv b (k - 2)) 17) (rr (wv b (k - 2)) 19)) (sr (wv b (k - 2)) 10) = hi at *
  generalize wv b (k - 16) = xa at *
  generalize wv b (k - 7) = xb at *
  refine wp_draws (fun w3 hw3 => ?_)
  obtain ⟨HG2, HB2, c3, c4, c5, f5⟩ : Hid (W.grownBy w3 (some gw)) ∧ Hid (Blk w3 gw 128 (wRow b k 0)) ∧ w3.cell? ⟨gw, k - 16, none⟩ = some (.int .u64 (xa.toNat : Int)) ∧ w3.cell? ⟨gw, k - 7, none⟩ = some (.int .u64 (xb.toNat : Int)) ∧ w3.cell? ⟨gw, k, none⟩ = some (.int .u64 (part b k 0 : Nat)) ∧ w3.frozen? ⟨gw, k, none⟩ = false := by
    obtain ⟨m, rfl⟩ := hw3
    exact ⟨Lib.hid (only_drewN HG1.out m), Lib.hid (HB1.out.drewN m), c3, c4, c5, f5⟩
  clear HG1 HB1 hw3
  have HNX := Lib.hid hnx
  clear hnx
  have q1 := w_lt lo
  have q2 := w_lt hi
  have q3 := w_lt xa
  have q4 := w_lt xb
  have s1 : IntKind.u64.wrap ((xa.toNat : Int) + (lo.toNat : Int)) = (xa.toNat : Int) + (lo.toNat : Int) := by rw [IntKind.wrap_u64]; omega
  have s2 : IntKind.u64.wrap ((xa.toNat : Int) + (lo.toNat : Int) + (xb.toNat : Int)) = (xa.toNat : Int) + (lo.toNat : Int) + (xb.toNat : Int) := by rw [IntKind.wrap_u64]; omega
  have s3 : IntKind.u64.wrap ((xa.toNat : Int) + (lo.toNat : Int) + (xb.toNat : Int) + (hi.toNat : Int)) = (xa.toNat : Int) + (lo.toNat : Int) + (xb.toNat : Int) + (hi.toNat : Int) := by rw [IntKind.wrap_u64]; omega
  have s4 := add4 xa lo xb hi
  have s5 : ((xa.toNat : Int) + (lo.toNat : Int) + (xb.toNat : Int) + (hi.toNat : Int)).tmod 4294967296 = ((ad (ad (ad xa lo) xb) hi).toNat : Int) := by rw [Int.tmod_eq_emod_of_nonneg (by omega)]; exact s4
  go_wp2
  go_still_tail 20, (by kernel_rfl)
  change wpList _ _ _ _ _ w3.drew
  go_wp2
  refine frame_end rfl (n - 1) (by omega) ⟨⟨rfl, rfl, rfl, rfl, rfl, rfl⟩, rfl, k + 1, by omega, by show Value.int .i64 ((k : Int) + 1) = _; go_num, ?_, only_drew (only_setCell HG2.out (.inl rfl) _)⟩
  refine ((HB2.out.store k _).same ?_).drew
  rw [← wRow_64 b k hl2]
  congr 1
  rw [HNX.out]
  rfl

set_option maxRecDepth 1000000 in
set_option maxHeartbeats 1000000 in
theorem loopW (Q : Exit → Act → World → Prop) (f : Nat → Value) (r gk gh : Nat) (S : ByteArray) (j gw : Nat) (b : Nat → UInt8) (W : World) (hj : j < 17179869190)
    (hSi : ∀ i, i < 64 → ∀ x : Int, x = ((64 * j + i : Nat) : Int) → ∀ w', (Instr.index 9 (.string S) (.int .i64 x)).run Tryd.prog w' = .ok (bv (b i)) w')
    (h0 : InvW r gk gh S j gw b W 64 f W)
    (hexit : ∀ f' w', InvW r gk gh S j gw b W 0 f' w' → Q (.exit 2) ⟨arr 272 f', []⟩ w') :
    (Code.loop (refLoop 1)).wp Tryd.prog Q ⟨arr 272 f, []⟩ W := by
  refine wp_loop_frame (InvW r gk gh S j gw b W) 64 f h0 ?_
  clear h0 f
  intro n f w ⟨h2, h8, k, hk, h9, hB, hG⟩
  by_cases h16 : k < 16
  · exact roundW1 Q f r gk gh S j gw b W w hj hSi n k hk h16 h2 h8 h9 hB hG
  · by_cases h64 : k < 64
    · exact roundW2 Q f r gk gh S j gw b W w n k hk (by omega) h64 h2 h8 h9 hB hG
    · obtain rfl : k = 64 := by omega
      obtain rfl : n = 0 := by omega
      obtain ⟨h2, h3, h4, h5, h6, h7⟩ := h2
      rw [lit272, h2, h3, h4, h5, h6, h7, h8, h9]
      clear h2 h3 h4 h5 h6 h7 h8 h9
      have HX := Lib.hid hexit
      have HB := Lib.hid hB
      have HG := Lib.hid hG
      clear hexit hSi hB hG
      conv => arg 2; whnf
      go_wp2
      exact exit_end rfl HX.out ⟨⟨rfl, rfl, rfl, rfl, rfl, rfl⟩, rfl, 64, rfl, rfl, HB.out, HG.out⟩
end Go.Proofs.YtgpbpdjamimbfaaDoor
namespace Go.Proofs.YtgpbpdjamimbfaaDoor
open Go Go.RowKit
attribute [local go_sem] xor6 and6 or6 not6 not6'

/-- A state of eight words lies in a slice's first cells. -/
def VAt (w : World) (g : Nat) (s : St) : Prop :=
  w.cell? ⟨g, 0, none⟩ = some (u6 s.a) ∧ w.cell? ⟨g, 1, none⟩ = some (u6 s.b) ∧ w.cell? ⟨g, 2, none⟩ = some (u6 s.c) ∧ w.cell? ⟨g, 3, none⟩ = some (u6 s.d) ∧
  w.cell? ⟨g, 4, none⟩ = some (u6 s.e) ∧ w.cell? ⟨g, 5, none⟩ = some (u6 s.f) ∧ w.cell? ⟨g, 6, none⟩ = some (u6 s.g) ∧ w.cell? ⟨g, 7, none⟩ = some (u6 s.h)
theorem below_drewN {B : Nat} {a w : World} (h : Below B a w) (n : Nat) : Below B a (w.drewN n) := ⟨h.os, h.tape, h.output, h.size, h.block⟩
def InvR (r gk gh : Nat) (S : ByteArray) (j gw : Nat) (s : Nat → W32) (b : Nat → UInt8) (W : World) (n : Nat) (f : Nat → Value) (w : World) : Prop :=
  Loc f r gk gh S j ∧ f 8 = .slice (some ⟨gw, 0, none⟩) 64 64 ∧ ∃ k, k + n = 64 ∧ f 16 = .int .i64 (k : Int) ∧ Below W.heap.size W w ∧ ∃ gv cap, f 15 = .slice (some ⟨gv, 0, none⟩) 8 cap ∧ gh < gv ∧ VAt w gv (rounds s (wv b) k)

set_option maxRecDepth 1000000 in
set_option maxHeartbeats 2000000 in
theorem roundR (Q : Exit → Act → World → Prop) (f : Nat → Value) (r gk gh : Nat) (S : ByteArray) (j gw : Nat) (s : Nat → W32) (b : Nat → UInt8) (W w : World)
    (hK : Blk W gk 128 (arr 64 fun i => u6 (kAt i))) (hW : Blk W gw 128 (arr 64 fun i => u6 (wv b i))) (hgh : gh < W.heap.size)
    (n k : Nat) (hk : k + n = 64) (hlt : k < 64) (h2 : Loc f r gk gh S j) (h8 : f 8 = .slice (some ⟨gw, 0, none⟩) 64 64) (h16 : f 16 = .int .i64 (k : Int)) (hb : Below W.heap.size W w)
    (gv cap : Nat) (h15 : f 15 = .slice (some ⟨gv, 0, none⟩) 8 cap) (hv : VAt w gv (rounds s (wv b) k)) :
    (refLoop 3).wp Tryd.prog (Exit.then (Next 272 (InvR r gk gh S j gw s b W) n) Q) ⟨arr 272 f, []⟩ w := by
  obtain ⟨h2, h3, h4, h5, h6, h7⟩ := h2
  rw [lit272, h2, h3, h4, h5, h6, h7, h8, h15, h16]
  clear h2 h3 h4 h5 h6 h7 h8 h15 h16
  have ck := (hK.below hb hK.lt).cell k
  have cw := (hW.below hb hW.lt).cell k
  rw [arr_get, if_pos hlt] at ck cw
  have HB := Lib.hid hb
  clear hb hK hW
  obtain ⟨st, hst⟩ : ∃ st, rounds s (wv b) k = st := ⟨_, rfl⟩
  have hnx : Hid (rounds s (wv b) (k + 1) = step st (kAt k) (wv b k)) := Lib.hid (by rw [← hst]; rfl)
  rw [hst] at hv
  clear hst
  obtain ⟨a0, b0, c0, d0, e0, f0, g0, h0⟩ := st
  obtain ⟨x, hx⟩ : ∃ x, kAt k = x := ⟨_, rfl⟩
  obtain ⟨y, hy⟩ : ∃ y, wv b k = y := ⟨_, rfl⟩
  have one := one_two ⟨a0, b0, c0, d0, e0, f0, g0, h0⟩ x y
  have two := three_one ⟨a0, b0, c0, d0, e0, f0, g0, h0⟩ x y
  unfold VAt u6 at hv
  unfold u6 at ck cw
  dsimp only at hv one two
  rw [hx] at ck
  rw [hy] at cw
  rw [hx, hy] at hnx
  clear hx hy
  unfold big1 big0 at one
  unfold big1 at two
  obtain ⟨v0, v1, v2, v3, v4, v5, v6, v7⟩ := hv
  have q1 := w_lt h0
  have q2 := w_lt (xo (xo (rr e0 6) (rr e0 11)) (rr e0 25))
  have q3 := w_lt (ro (an e0 f0) (an (no e0) g0))
  have q4 := w_lt x
  have q5 := w_lt y
  have q6 := w_lt (xo (xo (rr a0 2) (rr a0 13)) (rr a0 22))
  have q7 := w_lt (ro (ro (an a0 b0) (an a0 c0)) (an b0 c0))
  have q8 := w_lt d0
  conv => arg 2; whnf
  have l2 : decide ((k : Int) < 64) = true := by simp; omega
  have b1 : (k : Int) < 64 := by omega
  go_wp2
  go_quiet (fail)
  generalize hw1 : w.drewN nq = w1
  have HB1 : Hid (Below W.heap.size W w1) := Lib.hid (by rw [← hw1]; exact below_drewN HB.out nq)
  rw [← World.cell?_drewN (n := nq), hw1] at ck cw v0 v1 v2 v3 v4 v5 v6 v7
  clear hw1 HB
  go_wp2
  go_quiet (fail)
  generalize hw2 : w1.drewN nq = w2
  have HB2 : Hid (Below W.heap.size W w2) := Lib.hid (by rw [← hw2]; exact below_drewN HB1.out nq)
  rw [← World.cell?_drewN (n := nq), hw2] at ck cw v0 v1 v2 v3 v4 v5 v6 v7
  clear hw2 HB1
  go_wp2
  generalize ro (an e0 f0) (an (no e0) g0) = ch at *
  generalize ro (ro (an a0 b0) (an a0 c0)) (an b0 c0) = mj at *
  have ONE := Lib.hid one
  have TWO := Lib.hid two
  clear one two
  obtain ⟨x1, hx1⟩ : ∃ x1, xo (xo (rr e0 6) (rr e0 11)) (rr e0 25) = x1 := ⟨_, rfl⟩
  obtain ⟨x0, hx0⟩ : ∃ x0, xo (xo (rr a0 2) (rr a0 13)) (rr a0 22) = x0 := ⟨_, rfl⟩
  rw [hx1] at q2
  rw [hx0] at q6
  have s1 : IntKind.u64.wrap ((h0.toNat : Int) + (x1.toNat : Int)) = (h0.toNat : Int) + (x1.toNat : Int) := by rw [IntKind.wrap_u64]; omega
  have s2 : IntKind.u64.wrap ((h0.toNat : Int) + (x1.toNat : Int) + (ch.toNat : Int)) = (h0.toNat : Int) + (x1.toNat : Int) + (ch.toNat : Int) := by rw [IntKind.wrap_u64]; omega
  have s3 : IntKind.u64.wrap ((h0.toNat : Int) + (x1.toNat : Int) + (ch.toNat : Int) + (x.toNat : Int)) = (h0.toNat : Int) + (x1.toNat : Int) + (ch.toNat : Int) + (x.toNat : Int) := by rw [IntKind.wrap_u64]; omega
  have s4 : IntKind.u64.wrap ((h0.toNat : Int) + (x1.toNat : Int) + (ch.toNat : Int) + (x.toNat : Int) + (y.toNat : Int)) = (h0.toNat : Int) + (x1.toNat : Int) + (ch.toNat : Int) + (x.toNat : Int) + (y.toNat : Int) := by rw [IntKind.wrap_u64]; omega
  have s5 : IntKind.u64.wrap ((x0.toNat : Int) + (mj.toNat : Int)) = (x0.toNat : Int) + (mj.toNat : Int) := by rw [IntKind.wrap_u64]; omega
  have i0 : (0 : Int) ≤ (k : Int) := by omega
  go_quiet ((go_at_call 73; exact Calls.quiet_of (turn_k _ _ (by omega) (by omega) _)))
  generalize hw3 : w2.drewN nq = w3
  have HB3 : Hid (Below W.heap.size W w3) := Lib.hid (by rw [← hw3]; exact below_drewN HB2.out nq)
  rw [← World.cell?_drewN (n := nq), hw3] at ck cw v0 v1 v2 v3 v4 v5 v6 v7
  clear hw3 HB2
  go_wp2
  go_quiet ((go_at_call 73; exact Calls.quiet_of (turn_k _ _ (by omega) (by omega) _)))
  generalize hw4 : w3.drewN nq = w4
  have HB4 : Hid (Below W.heap.size W w4) := Lib.hid (by rw [← hw4]; exact below_drewN HB3.out nq)
  rw [← World.cell?_drewN (n := nq), hw4] at ck cw v0 v1 v2 v3 v4 v5 v6 v7
  clear hw4 HB3
  go_wp2
  have one := ONE.out
  have two := TWO.out
  rw [hx1, hx0] at one
  rw [hx1] at two
  clear s1 s2 s3 s4 s5 hx1 hx0 ONE TWO ck cw
  obtain ⟨o, ho⟩ : ∃ o, (h0.toNat : Int) + (x1.toNat : Int) + (ch.toNat : Int) + (x.toNat : Int) + (y.toNat : Int) = o := ⟨_, rfl⟩
  obtain ⟨t, ht⟩ : ∃ t, (x0.toNat : Int) + (mj.toNat : Int) = t := ⟨_, rfl⟩
  have o0 : 0 ≤ o := by omega
  have o1 : o < 34359738368 := by omega
  have t0 : 0 ≤ t := by omega
  have t1 : t < 34359738368 := by omega
  rw [ho, ht] at one
  rw [ho] at two
  rw [ho, ht]
  clear ho ht q1 q2 q3 q4 q5 q6 q7
  have r1 : IntKind.u64.wrap (o + t) = o + t := by rw [IntKind.wrap_u64]; omega
  have r2 : IntKind.u64.wrap ((d0.toNat : Int) + o) = (d0.toNat : Int) + o := by rw [IntKind.wrap_u64]; omega
  have r3 : (o + t).tmod 4294967296 = ((step ⟨a0, b0, c0, d0, e0, f0, g0, h0⟩ x y).a.toNat : Int) := by rw [Int.tmod_eq_emod_of_nonneg (by omega)]; exact one
  have r4 : ((d0.toNat : Int) + o).tmod 4294967296 = ((step ⟨a0, b0, c0, d0, e0, f0, g0, h0⟩ x y).e.toNat : Int) := by rw [Int.tmod_eq_emod_of_nonneg (by omega)]; exact two
  obtain ⟨na, hna⟩ : ∃ na, (step ⟨a0, b0, c0, d0, e0, f0, g0, h0⟩ x y).a = na := ⟨_, rfl⟩
  obtain ⟨ne, hne⟩ : ∃ ne, (step ⟨a0, b0, c0, d0, e0, f0, g0, h0⟩ x y).e = ne := ⟨_, rfl⟩
  rw [hna] at one r3
  rw [hne] at two r4
  have HNA := Lib.hid hna
  have HNE := Lib.hid hne
  clear hna hne
  go_wp2
  go_still_tail 30, (by kernel_rfl)
  change wpList _ _ _ _ _ w4.drew
  go_wp2
  have hsz := HB4.out.size
  refine frame_end rfl (n - 1) (by omega) ⟨⟨rfl, rfl, rfl, rfl, rfl, rfl⟩, rfl, k + 1, by omega, by show Value.int .i64 ((k : Int) + 1) = _; go_num, (HB4.out.alloc hsz _).drew, w4.heap.size, 8, rfl, by omega, ?_⟩
  rw [hnx.out]
  refine ⟨((Blk.new w4 _ _).drew.cell 0).trans ?_, ((Blk.new w4 _ _).drew.cell 1).trans ?_, ((Blk.new w4 _ _).drew.cell 2).trans ?_, ((Blk.new w4 _ _).drew.cell 3).trans ?_, ((Blk.new w4 _ _).drew.cell 4).trans ?_, ((Blk.new w4 _ _).drew.cell 5).trans ?_, ((Blk.new w4 _ _).drew.cell 6).trans ?_, ((Blk.new w4 _ _).drew.cell 7).trans ?_⟩
  · rw [← HNA.out]; rfl
  · rfl
  · rfl
  · rfl
  · rw [← HNE.out]; rfl
  · rfl
  · rfl
  · rfl

set_option maxRecDepth 1000000 in
set_option maxHeartbeats 1000000 in
theorem loopR (Q : Exit → Act → World → Prop) (f : Nat → Value) (r gk gh : Nat) (S : ByteArray) (j gw : Nat) (s : Nat → W32) (b : Nat → UInt8) (W : World)
    (hK : Blk W gk 128 (arr 64 fun i => u6 (kAt i))) (hW : Blk W gw 128 (arr 64 fun i => u6 (wv b i))) (hgh : gh < W.heap.size)
    (h0 : InvR r gk gh S j gw s b W 64 f W)
    (hexit : ∀ f' w', InvR r gk gh S j gw s b W 0 f' w' → Q (.exit 6) ⟨arr 272 f', []⟩ w') :
    (Code.loop (refLoop 3)).wp Tryd.prog Q ⟨arr 272 f, []⟩ W := by
  refine wp_loop_frame (InvR r gk gh S j gw s b W) 64 f h0 ?_
  clear h0 f
  intro n f w ⟨h2, h8, k, hk, h16, hb, gv, cap, h15, hlt2, hv⟩
  by_cases h64 : k < 64
  · exact roundR Q f r gk gh S j gw s b W w hK hW hgh n k hk h64 h2 h8 h16 hb gv cap h15 hv
  · obtain rfl : k = 64 := by omega
    obtain rfl : n = 0 := by omega
    obtain ⟨h2, h3, h4, h5, h6, h7⟩ := h2
    rw [lit272, h2, h3, h4, h5, h6, h7, h8, h15, h16]
    clear h2 h3 h4 h5 h6 h7 h8 h15 h16
    have HX := Lib.hid hexit
    have HV := Lib.hid hv
    have HB := Lib.hid hb
    clear hexit hv hb hK hW
    conv => arg 2; whnf
    go_wp2
    exact exit_end rfl HX.out ⟨⟨rfl, rfl, rfl, rfl, rfl, rfl⟩, rfl, 64, rfl, rfl, HB.out, gv, cap, rfl, hlt2, HV.out⟩
end Go.Proofs.YtgpbpdjamimbfaaDoor
namespace Go.Proofs.YtgpbpdjamimbfaaDoor
open Go Go.RowKit

def hRow (s : Nat → W32) (t : St) (k : Nat) : Array Value := arr 8 fun i => if i < k then u6 (ad (s i) (t.get i)) else u6 (s i)
theorem hRow_at (s : Nat → W32) (t : St) (k : Nat) (h : k < 8) : (hRow s t k)[k]? = some (u6 (s k)) := by simp [hRow, arr_get, h]
theorem hRow_step (s : Nat → W32) (t : St) (k : Nat) (h : k < 8) : (hRow s t k).setIfInBounds k (u6 (ad (s k) (t.get k))) = hRow s t (k + 1) := by
  unfold hRow
  rw [arr_set _ _ _ _ h]
  refine arr_congr fun i _ => ?_
  by_cases h1 : i = k
  · subst h1; simp
  · by_cases h2 : i < k
    · simp [h1, h2, show i < k + 1 by omega]
    · simp [h1, h2, show ¬ i < k + 1 by omega]
theorem VAt.get {w : World} {g : Nat} {s : St} (h : VAt w g s) (k : Nat) (hk : k < 8) : w.cell? ⟨g, k, none⟩ = some (u6 (s.get k)) := by
  obtain ⟨h0, h1, h2, h3, h4, h5, h6, h7⟩ := h
  match k, hk with
  | 0, _ => exact h0
  | 1, _ => exact h1
  | 2, _ => exact h2
  | 3, _ => exact h3
  | 4, _ => exact h4
  | 5, _ => exact h5
  | 6, _ => exact h6
  | 7, _ => exact h7
theorem VAt.far {w : World} {g : Nat} {s : St} (h : VAt w g s) (p : Addr) (v : Value) (hp : p.block ≠ g) : VAt (w.setCell p v) g s := by
  have hne : ∀ i, p ≠ (⟨g, i, none⟩ : Addr) := fun i hi => hp (by rw [hi])
  obtain ⟨h0, h1, h2, h3, h4, h5, h6, h7⟩ := h
  refine ⟨?_, ?_, ?_, ?_, ?_, ?_, ?_, ?_⟩ <;> (rw [World.cell?_setCell_other _ p _ v (hne _)]; assumption)

def InvA (r gk gh : Nat) (S : ByteArray) (j gv cap : Nat) (s : Nat → W32) (t : St) (W : World) (n : Nat) (f : Nat → Value) (w : World) : Prop :=
  Loc f r gk gh S j ∧ f 15 = .slice (some ⟨gv, 0, none⟩) 8 cap ∧ ∃ k, k + n = 8 ∧ f 21 = .int .i64 (k : Int) ∧ W.grownBy w (some gh) ∧ VAt w gv t ∧ Blk w gh 128 (hRow s t k)

set_option maxRecDepth 1000000 in
set_option maxHeartbeats 1000000 in
theorem loopA (Q : Exit → Act → World → Prop) (f : Nat → Value) (r gk gh : Nat) (S : ByteArray) (j gv cap : Nat) (s : Nat → W32) (t : St) (W : World) (hlt : gh < gv)
    (h0 : InvA r gk gh S j gv cap s t W 8 f W)
    (hexit : ∀ f' w', InvA r gk gh S j gv cap s t W 0 f' w' → Q (.exit 8) ⟨arr 272 f', []⟩ w') :
    (Code.loop (refLoop 4)).wp Tryd.prog Q ⟨arr 272 f, []⟩ W := by
  refine wp_loop_frame (InvA r gk gh S j gv cap s t W) 8 f h0 ?_
  clear h0 f
  intro n f w ⟨⟨h2, h3, h4, h5, h6, h7⟩, h15, k, hk, h21, hG, hv, hB⟩
  rw [lit272, h2, h3, h4, h5, h6, h7, h15, h21]
  clear h2 h3 h4 h5 h6 h7 h15 h21
  have HX := Lib.hid hexit
  have HV := Lib.hid hv
  have HB := Lib.hid hB
  have HG := Lib.hid hG
  clear hexit hv hB hG
  conv => arg 2; whnf
  by_cases h8 : k < 8
  · have c1 := HB.out.cell k
    have f1 := HB.out.frozen k
    rw [hRow_at s t k h8] at c1
    have c2 := HV.out.get k h8
    unfold u6 at c1 c2
    have l2 : decide ((k : Int) < 8) = true := by simp; omega
    have b1 : (k : Int) < 8 := by omega
    have b0 : (0 : Int) ≤ (k : Int) := by omega
    obtain ⟨x, hx⟩ : ∃ x, s k = x := ⟨_, rfl⟩
    obtain ⟨y, hy⟩ : ∃ y, t.get k = y := ⟨_, rfl⟩
    rw [hx] at c1
    rw [hy] at c2
    have HXX := Lib.hid hx
    have HYY := Lib.hid hy
    clear hx hy
    have q1 := w_lt x
    have q2 := w_lt y
    have s1 : IntKind.u64.wrap ((x.toNat : Int) + (y.toNat : Int)) = (x.toNat : Int) + (y.toNat : Int) := by rw [IntKind.wrap_u64]; omega
    have s5 : ((x.toNat : Int) + (y.toNat : Int)).tmod 4294967296 = ((ad x y).toNat : Int) := by rw [Int.tmod_eq_emod_of_nonneg (by omega)]; exact add2 x y
    go_wp2
    go_still_tail 14, (by kernel_rfl)
    change wpList _ _ _ _ _ w.drew
    go_wp2
    refine frame_end rfl (n - 1) (by omega) ⟨⟨rfl, rfl, rfl, rfl, rfl, rfl⟩, rfl, k + 1, by omega, by show Value.int .i64 ((k : Int) + 1) = _; go_num, only_drew (only_setCell HG.out (.inl rfl) _), HV.out.far _ _ (by show gh ≠ gv; omega), ?_⟩
    refine ((HB.out.store k _).same ?_).drew
    rw [← hRow_step s t k h8, HXX.out, HYY.out]
    first | rfl | (congr 2; exact add2 x y)
  · obtain rfl : k = 8 := by omega
    obtain rfl : n = 0 := by omega
    go_wp2
    exact exit_end rfl HX.out ⟨⟨rfl, rfl, rfl, rfl, rfl, rfl⟩, rfl, 8, rfl, rfl, HG.out, HV.out, HB.out⟩

def InvO (r gh go : Nat) (s : Nat → W32) (W : World) (n : Nat) (f : Nat → Value) (w : World) : Prop :=
  f 2 = .pointer (some ⟨r, 0, none⟩) ∧ f 6 = .slice (some ⟨gh, 0, none⟩) 8 8 ∧ f 22 = .pointer (some ⟨go, 0, none⟩) ∧ ∃ k, k + n = 32 ∧ f 23 = .int .i64 (k : Int) ∧ W.grownBy w (some go) ∧ Blk w go 37 (upto 32 k (fun i => bv (idByte s i)) (bv 0))

set_option maxRecDepth 1000000 in
set_option maxHeartbeats 1000000 in
theorem loopO (Q : Exit → Act → World → Prop) (f : Nat → Value) (r gh go : Nat) (s : Nat → W32) (W : World) (hne : gh ≠ go)
    (hH : Blk W gh 128 (arr 8 fun i => u6 (s i)))
    (h0 : InvO r gh go s W 32 f W)
    (hexit : ∀ f' w', InvO r gh go s W 0 f' w' → Q (.exit 10) ⟨arr 272 f', []⟩ w') :
    (Code.loop (refLoop 5)).wp Tryd.prog Q ⟨arr 272 f, []⟩ W := by
  refine wp_loop_frame (InvO r gh go s W) 32 f h0 ?_
  clear h0 f
  intro n f w ⟨h2, h6, h22, k, hk, h23, hG, hB⟩
  rw [lit272, h2, h6, h22, h23]
  clear h2 h6 h22 h23
  have ch := (hH.grown hG (fun e => hne (by injection e))).cell (k / 4)
  have HX := Lib.hid hexit
  have HB := Lib.hid hB
  have HG := Lib.hid hG
  clear hexit hB hG hH
  conv => arg 2; whnf
  by_cases h32 : k < 32
  · rw [arr_get, if_pos (by omega)] at ch
    unfold u6 at ch
    have c1 := HB.out.cell k
    have f1 := HB.out.frozen k
    rw [upto_get_any _ _ _ _ _ h32, if_neg (by omega)] at c1
    have l2 : decide ((k : Int) < 32) = true := by simp; omega
    have b1 : (k : Int) < 32 := by omega
    have b0 : (0 : Int) ≤ (k : Int) := by omega
    obtain ⟨q, hq⟩ : ∃ q, k / 4 = q := ⟨_, rfl⟩
    obtain ⟨m, hm⟩ : ∃ m, 24 - 8 * (k % 4) = m := ⟨_, rfl⟩
    have e1 : (k : Int) / 4 = (q : Int) := by omega
    have e2 : (24 : Int) - 8 * ((k : Int) % 4) = (m : Int) := by omega
    have q8 : (q : Int) < 8 := by omega
    have q0 : (0 : Int) ≤ (q : Int) := by omega
    have HQ := Lib.hid (And.intro hq hm)
    rw [hq] at ch
    clear hq hm
    go_wp2
    obtain ⟨hq, hm⟩ := HQ.out
    refine frame_end rfl (n - 1) (by omega) ⟨rfl, rfl, rfl, k + 1, by omega, by show Value.int .i64 ((k : Int) + 1) = _; go_num, only_setCell HG.out (.inl rfl) _, ?_⟩
    refine (HB.out.store k _).same ?_
    rw [← upto_set 32 k (fun i => bv (idByte s i)) (bv 0) h32]
    congr 1
    unfold idByte bv byteOf
    rw [hq, hm, Int.tmod_eq_emod_of_nonneg (by exact Int.ediv_nonneg (by omega) (by exact Int.le_of_lt (Int.pow_pos (by omega))))]
    congr 1
    simp
  · obtain rfl : k = 32 := by omega
    obtain rfl : n = 0 := by omega
    go_wp2
    exact exit_end rfl HX.out ⟨rfl, rfl, rfl, 32, rfl, rfl, HG.out, HB.out⟩
end Go.Proofs.YtgpbpdjamimbfaaDoor
namespace Go.Proofs.YtgpbpdjamimbfaaDoor
open Go Go.RowKit

set_option maxRecDepth 100000 in
theorem parts_any (w : World) :
    Calls Tryd.prog 72 #[] w fun e w' => e = .returned (.slice (some ⟨w.heap.size, 0, none⟩) 64 64) ∧ w.alloc (.cells (arr 64 fun i => u6 (kAt i)) 128) = w' := by
  have he : arr 64 (fun i => u6 (kAt i)) = #[.int .u64 1116352408, .int .u64 1899447441, .int .u64 3049323471, .int .u64 3921009573, .int .u64 961987163, .int .u64 1508970993, .int .u64 2453635748, .int .u64 2870763221,
    .int .u64 3624381080, .int .u64 310598401, .int .u64 607225278, .int .u64 1426881987, .int .u64 1925078388, .int .u64 2162078206, .int .u64 2614888103, .int .u64 3248222580,
    .int .u64 3835390401, .int .u64 4022224774, .int .u64 264347078, .int .u64 604807628, .int .u64 770255983, .int .u64 1249150122, .int .u64 1555081692, .int .u64 1996064986,
    .int .u64 2554220882, .int .u64 2821834349, .int .u64 2952996808, .int .u64 3210313671, .int .u64 3336571891, .int .u64 3584528711, .int .u64 113926993, .int .u64 338241895,
    .int .u64 666307205, .int .u64 773529912, .int .u64 1294757372, .int .u64 1396182291, .int .u64 1695183700, .int .u64 1986661051, .int .u64 2177026350, .int .u64 2456956037,
    .int .u64 2730485921, .int .u64 2820302411, .int .u64 3259730800, .int .u64 3345764771, .int .u64 3516065817, .int .u64 3600352804, .int .u64 4094571909, .int .u64 275423344,
    .int .u64 430227734, .int .u64 506948616, .int .u64 659060556, .int .u64 883997877, .int .u64 958139571, .int .u64 1322822218, .int .u64 1537002063, .int .u64 1747873779,
    .int .u64 1955562222, .int .u64 2024104815, .int .u64 2227730452, .int .u64 2361852424, .int .u64 2428436474, .int .u64 2756734187, .int .u64 3204031479, .int .u64 3329325298] := by kernel_rfl
  rw [he]
  clear he
  go_enter Tryd.func72, Tryd.ntmps72
  go_wp2
  go_ret
  exact ⟨rfl, rfl⟩
end Go.Proofs.YtgpbpdjamimbfaaDoor
