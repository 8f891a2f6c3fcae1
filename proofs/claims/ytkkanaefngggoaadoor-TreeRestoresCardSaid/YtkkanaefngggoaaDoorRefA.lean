/-
  The reference's sum, the two short loops: the state behind a block; a state's bytes.
-/
import Derived.Test.YtkkanaefngggoaaDoorRefR
namespace Go.Proofs.YtkkanaefngggoaaDoor
open Go Go.RowKit

def hRow (s : Nat → W32) (t : St) (k : Nat) : Array Value := arr 8 fun i => if i < k then u6 (ad (s i) (t.get i)) else u6 (s i)
theorem hRow_at (s : Nat → W32) (t : St) (k : Nat) (h : k < 8) : (hRow s t k)[k]? = some (u6 (s k)) := by simp [hRow, arr_get, h]
theorem hRow_step (s : Nat → W32) (t : St) (k : Nat) (h : k < 8) : (hRow s t k).setIfInBounds k (u6 (ad (s k) (t.get k))) = hRow s t (k + 1) := by
  unfold hRow
  rw [arr_set _ _ _ _ h]
  refine arr_congr fun i _ => ?_
  by_cases h1 : i = k
  · subst h1; simp
  · by_cases h2 : i < k
    · simp [h1, h2, show i < k + 1 by omega]
    · simp [h1, h2, show ¬ i < k + 1 by omega]
theorem VAt.get {w : World} {g : Nat} {s : St} (h : VAt w g s) (k : Nat) (hk : k < 8) : w.cell? ⟨g, k, none⟩ = some (u6 (s.get k)) := by
  obtain ⟨h0, h1, h2, h3, h4, h5, h6, h7⟩ := h
  match k, hk with
  | 0, _ => exact h0
  | 1, _ => exact h1
  | 2, _ => exact h2
  | 3, _ => exact h3
  | 4, _ => exact h4
  | 5, _ => exact h5
  | 6, _ => exact h6
  | 7, _ => exact h7
theorem VAt.far {w : World} {g : Nat} {s : St} (h : VAt w g s) (p : Addr) (v : Value) (hp : p.block ≠ g) : VAt (w.setCell p v) g s := by
  have hne : ∀ i, p ≠ (⟨g, i, none⟩ : Addr) := fun i hi => hp (by rw [hi])
  obtain ⟨h0, h1, h2, h3, h4, h5, h6, h7⟩ := h
  refine ⟨?_, ?_, ?_, ?_, ?_, ?_, ?_, ?_⟩ <;> (rw [World.cell?_setCell_other _ p _ v (hne _)]; assumption)

def InvA (r gk gh : Nat) (S : ByteArray) (j gv cap : Nat) (s : Nat → W32) (t : St) (W : World) (n : Nat) (f : Nat → Value) (w : World) : Prop :=
  Loc f r gk gh S j ∧ f 15 = .slice (some ⟨gv, 0, none⟩) 8 cap ∧ ∃ k, k + n = 8 ∧ f 21 = .int .i64 (k : Int) ∧ W.grownBy w (some gh) ∧ VAt w gv t ∧ Blk w gh 100 (hRow s t k)

set_option maxRecDepth 1000000 in
set_option maxHeartbeats 1000000 in
theorem loopA (Q : Exit → Act → World → Prop) (f : Nat → Value) (r gk gh : Nat) (S : ByteArray) (j gv cap : Nat) (s : Nat → W32) (t : St) (W : World) (hlt : gh < gv)
    (h0 : InvA r gk gh S j gv cap s t W 8 f W)
    (hexit : ∀ f' w', InvA r gk gh S j gv cap s t W 0 f' w' → Q (.exit 8) ⟨arr 272 f', []⟩ w') :
    (Code.loop (refLoop 4)).wp Tryd.prog Q ⟨arr 272 f, []⟩ W := by
  refine wp_loop_frame (InvA r gk gh S j gv cap s t W) 8 f h0 ?_
  clear h0 f
  intro n f w ⟨⟨h2, h3, h4, h5, h6, h7⟩, h15, k, hk, h21, hG, hv, hB⟩
  rw [lit272, h2, h3, h4, h5, h6, h7, h15, h21]
  clear h2 h3 h4 h5 h6 h7 h15 h21
  have HX := Lib.hid hexit
  have HV := Lib.hid hv
  have HB := Lib.hid hB
  have HG := Lib.hid hG
  clear hexit hv hB hG
  conv => arg 2; whnf
  by_cases h8 : k < 8
  · have c1 := HB.out.cell k
    have f1 := HB.out.frozen k
    rw [hRow_at s t k h8] at c1
    have c2 := HV.out.get k h8
    unfold u6 at c1 c2
    have l2 : decide ((k : Int) < 8) = true := by simp; omega
    have b1 : (k : Int) < 8 := by omega
    have b0 : (0 : Int) ≤ (k : Int) := by omega
    obtain ⟨x, hx⟩ : ∃ x, s k = x := ⟨_, rfl⟩
    obtain ⟨y, hy⟩ : ∃ y, t.get k = y := ⟨_, rfl⟩
    rw [hx] at c1
    rw [hy] at c2
    have HXX := Lib.hid hx
    have HYY := Lib.hid hy
    clear hx hy
    have q1 := w_lt x
    have q2 := w_lt y
    have s1 : IntKind.u64.wrap ((x.toNat : Int) + (y.toNat : Int)) = (x.toNat : Int) + (y.toNat : Int) := by rw [IntKind.wrap_u64]; omega
    have s5 : ((x.toNat : Int) + (y.toNat : Int)).tmod 4294967296 = ((ad x y).toNat : Int) := by rw [Int.tmod_eq_emod_of_nonneg (by omega)]; exact add2 x y
    go_wp2
    go_still_tail 14, (by kernel_rfl)
    change wpList _ _ _ _ _ w.drew
    go_wp2
    refine frame_end rfl (n - 1) (by omega) ⟨⟨rfl, rfl, rfl, rfl, rfl, rfl⟩, rfl, k + 1, by omega, by show Value.int .i64 ((k : Int) + 1) = _; go_num, only_drew (only_setCell HG.out (.inl rfl) _), HV.out.far _ _ (by show gh ≠ gv; omega), ?_⟩
    refine ((HB.out.store k _).same ?_).drew
    rw [← hRow_step s t k h8, HXX.out, HYY.out]
    first | rfl | (congr 2; exact add2 x y)
  · obtain rfl : k = 8 := by omega
    obtain rfl : n = 0 := by omega
    go_wp2
    exact exit_end rfl HX.out ⟨⟨rfl, rfl, rfl, rfl, rfl, rfl⟩, rfl, 8, rfl, rfl, HG.out, HV.out, HB.out⟩

def InvO (r gh go : Nat) (s : Nat → W32) (W : World) (n : Nat) (f : Nat → Value) (w : World) : Prop :=
  f 2 = .pointer (some ⟨r, 0, none⟩) ∧ f 6 = .slice (some ⟨gh, 0, none⟩) 8 8 ∧ f 22 = .pointer (some ⟨go, 0, none⟩) ∧ ∃ k, k + n = 32 ∧ f 23 = .int .i64 (k : Int) ∧ W.grownBy w (some go) ∧ Blk w go 30 (upto 32 k (fun i => bv (idByte s i)) (bv 0))

set_option maxRecDepth 1000000 in
set_option maxHeartbeats 1000000 in
theorem loopO (Q : Exit → Act → World → Prop) (f : Nat → Value) (r gh go : Nat) (s : Nat → W32) (W : World) (hne : gh ≠ go)
    (hH : Blk W gh 100 (arr 8 fun i => u6 (s i)))
    (h0 : InvO r gh go s W 32 f W)
    (hexit : ∀ f' w', InvO r gh go s W 0 f' w' → Q (.exit 10) ⟨arr 272 f', []⟩ w') :
    (Code.loop (refLoop 5)).wp Tryd.prog Q ⟨arr 272 f, []⟩ W := by
  refine wp_loop_frame (InvO r gh go s W) 32 f h0 ?_
  clear h0 f
  intro n f w ⟨h2, h6, h22, k, hk, h23, hG, hB⟩
  rw [lit272, h2, h6, h22, h23]
  clear h2 h6 h22 h23
  have ch := (hH.grown hG (fun e => hne (by injection e))).cell (k / 4)
  have HX := Lib.hid hexit
  have HB := Lib.hid hB
  have HG := Lib.hid hG
  clear hexit hB hG hH
  conv => arg 2; whnf
  by_cases h32 : k < 32
  · rw [arr_get, if_pos (by omega)] at ch
    unfold u6 at ch
    have c1 := HB.out.cell k
    have f1 := HB.out.frozen k
    rw [upto_get_any _ _ _ _ _ h32, if_neg (by omega)] at c1
    have l2 : decide ((k : Int) < 32) = true := by simp; omega
    have b1 : (k : Int) < 32 := by omega
    have b0 : (0 : Int) ≤ (k : Int) := by omega
    obtain ⟨q, hq⟩ : ∃ q, k / 4 = q := ⟨_, rfl⟩
    obtain ⟨m, hm⟩ : ∃ m, 24 - 8 * (k % 4) = m := ⟨_, rfl⟩
    have e1 : (k : Int) / 4 = (q : Int) := by omega
    have e2 : (24 : Int) - 8 * ((k : Int) % 4) = (m : Int) := by omega
    have q8 : (q : Int) < 8 := by omega
    have q0 : (0 : Int) ≤ (q : Int) := by omega
    have HQ := Lib.hid (And.intro hq hm)
    rw [hq] at ch
    clear hq hm
    go_wp2
    obtain ⟨hq, hm⟩ := HQ.out
    refine frame_end rfl (n - 1) (by omega) ⟨rfl, rfl, rfl, k + 1, by omega, by show Value.int .i64 ((k : Int) + 1) = _; go_num, only_setCell HG.out (.inl rfl) _, ?_⟩
    refine (HB.out.store k _).same ?_
    rw [← upto_set 32 k (fun i => bv (idByte s i)) (bv 0) h32]
    congr 1
    unfold idByte bv byteOf
    rw [hq, hm, Int.tmod_eq_emod_of_nonneg (by exact Int.ediv_nonneg (by omega) (by exact Int.le_of_lt (Int.pow_pos (by omega))))]
    congr 1
    simp
  · obtain rfl : k = 32 := by omega
    obtain rfl : n = 0 := by omega
    go_wp2
    exact exit_end rfl HX.out ⟨rfl, rfl, rfl, 32, rfl, rfl, HG.out, HB.out⟩
end Go.Proofs.YtkkanaefngggoaaDoor
