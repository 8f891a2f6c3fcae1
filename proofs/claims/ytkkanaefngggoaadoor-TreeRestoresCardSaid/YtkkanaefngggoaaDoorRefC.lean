/-
  The reference's sum, the innermost loop: four bytes into a word.
-/
import Derived.Test.YtkkanaefngggoaaDoorRefTurn
import Derived.Test.YtkkanaefngggoaaDoorRefMath
import Derived.Test.YtkkanaefngggoaaDoorFrame
import Derived.StillTailTactics
import Derived.Outline
namespace Go.Proofs.YtkkanaefngggoaaDoor
open Go Go.RowKit

noncomputable def refLoop (k : Nat) : Code := ((Tryd.f46.body.map loopsIn).getD []).getD k .skip

/-- The locals that the loops read and never write. -/
def Loc (f : Nat → Value) (r gk gh : Nat) (S : ByteArray) (j : Nat) : Prop :=
  f 2 = .pointer (some ⟨r, 0, none⟩) ∧ f 3 = .string S ∧ f 4 = .slice (some ⟨gk, 0, none⟩) 64 64 ∧ f 5 = .int .u64 4294967296 ∧ f 6 = .slice (some ⟨gh, 0, none⟩) 8 8 ∧ f 7 = .int .i64 (64 * (j : Int))

/-- The schedule's row with so many words, and so many bytes of the next. -/
def wRow (b : Nat → UInt8) (i c : Nat) : Array Value := arr 64 fun t => if t < i then u6 (wv b t) else if t = i then .int .u64 (part b i c : Nat) else .int .u64 0
theorem wRow_step (b : Nat → UInt8) (i c : Nat) (hi : i < 64) : (wRow b i c).setIfInBounds i (.int .u64 (part b i (c + 1) : Nat)) = wRow b i (c + 1) := by
  unfold wRow
  rw [arr_set _ _ _ _ hi]
  refine arr_congr fun t _ => ?_
  by_cases h : t = i
  · subst h; simp
  · simp [h]
theorem wRow_at (b : Nat → UInt8) (i c : Nat) (hi : i < 64) : (wRow b i c)[i]? = some (.int .u64 (part b i c : Nat)) := by simp [wRow, arr_get, hi]

theorem run_index_str {P : Program} (t : TypeId) (ht : P.underlying t = some .string) (l : List UInt8) (x : Int) (k : Nat) (hx : x = (k : Int)) (hk : k < l.length) (w : World) :
    (Instr.index t (.string ⟨l.toArray⟩) (.int .i64 x)).run P w = .ok (bv (l.getD k 0)) w := by
  subst hx
  have h1 : k < (⟨l.toArray⟩ : ByteArray).size := by simpa [ByteArray.size] using hk
  have h2 : (k : Int) < ((⟨l.toArray⟩ : ByteArray).size : Int) := by omega
  simp [Instr.index, asIntOf, run_underlying ht, Sem.run_bind, h1, hk, bv, List.getD_eq_getElem?_getD]
  rfl

def InvC (r gk gh : Nat) (S : ByteArray) (j i gw : Nat) (b : Nat → UInt8) (W : World) (n : Nat) (f : Nat → Value) (w : World) : Prop :=
  Loc f r gk gh S j ∧ f 8 = .slice (some ⟨gw, 0, none⟩) 64 64 ∧ f 9 = .int .i64 (i : Int) ∧ ∃ c, c + n = 4 ∧ f 10 = .int .i64 (c : Int) ∧ Blk w gw 100 (wRow b i c) ∧ W.grownBy w (some gw)

set_option maxRecDepth 1000000 in
set_option maxHeartbeats 1000000 in
theorem loopC (Q : Exit → Act → World → Prop) (f : Nat → Value) (r gk gh : Nat) (S : ByteArray) (j i gw : Nat) (b : Nat → UInt8) (W : World) (hi : i < 16) (hj : j < 17179869190)
    (hSi : ∀ c, c < 4 → ∀ x : Int, x = ((64 * j + (4 * i + c) : Nat) : Int) → ∀ w', (Instr.index 9 (.string S) (.int .i64 x)).run Tryd.prog w' = .ok (bv (b (4 * i + c))) w')
    (h0 : InvC r gk gh S j i gw b W 4 f W)
    (hexit : ∀ f' w', InvC r gk gh S j i gw b W 0 f' w' → Q (.exit 4) ⟨arr 272 f', []⟩ w') :
    (Code.loop (refLoop 2)).wp Tryd.prog Q ⟨arr 272 f, []⟩ W := by
  refine wp_loop_frame (fun n f w => InvC r gk gh S j i gw b W n f w) 4 f h0 ?_
  clear h0 f
  intro n f w ⟨⟨h2, h3, h4, h5, h6, h7⟩, h8, h9, c, hc, h10, hB, hG⟩
  rw [lit272, h2, h3, h4, h5, h6, h7, h8, h9, h10]
  clear h2 h3 h4 h5 h6 h7 h8 h9 h10
  have HX := Lib.hid hexit
  have HSi := Lib.hid hSi
  have HB := Lib.hid hB
  have HG := Lib.hid hG
  clear hexit hSi hB hG
  conv => arg 2; whnf
  by_cases hlt : c < 4
  · have hcell := HB.out.cell i
    have hfr := HB.out.frozen i
    rw [wRow_at b i c (by omega)] at hcell
    have hix : ∀ w', (Instr.index 9 (.string S) (.int .i64 (64 * (j : Int) + 4 * (i : Int) + (c : Int)))).run Tryd.prog w' = .ok (.int .u8 ((b (4 * i + c)).toNat : Int)) w' := HSi.out c hlt (64 * (j : Int) + 4 * (i : Int) + (c : Int)) (by omega)
    have hp := part_lt3 b i c hlt
    have hby := (b (4 * i + c)).toNat_lt
    generalize hP : part b i c = p at *
    generalize hY : b (4 * i + c) = y at *
    have HP := Lib.hid hP
    have HY := Lib.hid hY
    clear hP hY
    have i0 : (0 : Int) ≤ (i : Int) := by omega
    have i1 : (i : Int) < 64 := by omega
    have t1 : IntKind.i64.wrap (4 * (i : Int)) = 4 * (i : Int) := by rw [IntKind.wrap_i64]; omega
    have t2 : IntKind.i64.wrap (64 * (j : Int) + 4 * (i : Int)) = 64 * (j : Int) + 4 * (i : Int) := by rw [IntKind.wrap_i64]; omega
    have t3 : IntKind.i64.wrap (64 * (j : Int) + 4 * (i : Int) + (c : Int)) = 64 * (j : Int) + 4 * (i : Int) + (c : Int) := by rw [IntKind.wrap_i64]; omega
    have t4 : IntKind.u64.wrap ((p : Int) * 256) = (p : Int) * 256 := by rw [IntKind.wrap_u64]; omega
    have t5 : IntKind.u64.wrap (y.toNat : Int) = (y.toNat : Int) := by rw [IntKind.wrap_u64]; omega
    have t6 : IntKind.u64.wrap ((p : Int) * 256 + (y.toNat : Int)) = (p : Int) * 256 + (y.toNat : Int) := by rw [IntKind.wrap_u64]; omega
    go_wp2
    go_still_tail 18, rfl
    change wpList _ _ _ _ _ w.drew
    go_wp2
    refine frame_end rfl (n - 1) (by omega) ⟨⟨rfl, rfl, rfl, rfl, rfl, rfl⟩, rfl, rfl, c + 1, by omega, by show Value.int .i64 ((c : Int) + 1) = _; go_num, ?_, only_drew (only_setCell HG.out (.inl rfl) _)⟩
    refine ((HB.out.store i _).same ?_).drew
    rw [← wRow_step b i c (by omega), part, HP.out, HY.out]
    congr 2
  · obtain rfl : c = 4 := by omega
    obtain rfl : n = 0 := by omega
    go_wp2
    refine exit_end rfl HX.out ⟨⟨rfl, rfl, rfl, rfl, rfl, rfl⟩, rfl, rfl, 4, rfl, rfl, HB.out, HG.out⟩
theorem loop_at {P : Program} {Q : Exit → Act → World → Prop} {c : Code} {w : World} {xs : Array Value} (N : Nat) (hs : xs.size = N) (h : c.wp P Q ⟨arr N (fun i => xs.getD i undef), []⟩ w) : c.wp P Q ⟨xs, []⟩ w := by
  rwa [← arr_getD xs hs] at h
end Go.Proofs.YtkkanaefngggoaaDoor
