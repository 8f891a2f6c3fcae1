/-
  Layer 10: the reference's journal as a value; what its reading compares. No condition.
-/
import Derived.Test.YtgpbpdjamimbfaaDoorJrnRec
import Derived.Test.YtgpbpdjamimbfaaDoorJrnOpen
import Derived.Test.YtgpbpdjamimbfaaDoorQSlr
import Derived.Test.YtgpbpdjamimbfaaDoorStrRow
namespace Go.Proofs.YtgpbpdjamimbfaaDoor
open Go Go.RowKit Go.Shelf

/-- The 38 cells of the reference's journal. -/
def rjF (s : SlabS) (v : Value) (l : Nat → UInt8) (dn : Bool) : Nat → Value
  | 0 => .int .i64 (s.room : Int)
  | 1 => .int .i64 (s.sure : Int)
  | 2 => .int .i64 (nrm s.pow)
  | 3 => .string ⟨s.bs.toArray⟩
  | 4 => v
  | k + 5 => if k < 32 then bv (l k) else .bool dn
theorem rj_build (a b c : Int) (x : ByteArray) : (Tryd.prog.built 39 [(0, .agg #[.int .i64 a, .int .i64 b, .int .i64 c, .string x])]).getD #[] = arr 38 (fun k => if k = 0 then .int .i64 a else if k = 1 then .int .i64 b else if k = 2 then .int .i64 c else if k = 3 then .string x else if k = 4 then .slice none 0 0 else if k < 37 then bv 0 else .bool false) := by kernel_rfl
theorem rj_built (s : SlabS) : (Tryd.prog.built 39 [(0, s.v)]).getD #[] = arr 38 (rjF s (.slice none 0 0) zeroD false) := by
  unfold SlabS.v
  rw [rj_build]
  refine arr_congr fun k hk => ?_
  match k with
  | 0 => rfl
  | 1 => rfl
  | 2 => rfl
  | 3 => rfl
  | 4 => rfl
  | k + 5 =>
    show (if k + 5 = 0 then _ else if k + 5 = 1 then _ else if k + 5 = 2 then _ else if k + 5 = 3 then _ else if k + 5 = 4 then _ else if k + 5 < 37 then _ else _ : Value) = if k < 32 then bv (zeroD k) else .bool false
    rw [if_neg (by omega), if_neg (by omega), if_neg (by omega), if_neg (by omega), if_neg (by omega)]
    by_cases h : k < 32
    · rw [if_pos (by omega), if_pos h]
      rfl
    · rw [if_neg (by omega), if_neg h]
theorem rj_some' (a b c : Int) (x : ByteArray) : (Tryd.prog.built 39 [(0, .agg #[.int .i64 a, .int .i64 b, .int .i64 c, .string x])]).isSome = true := by kernel_rfl
theorem rj_some (s : SlabS) : (Tryd.prog.built 39 [(0, s.v)]).isSome = true := rj_some' _ _ _ _
theorem rj_all {s : SlabS} {v : Value} {l : Nat → UInt8} {dn : Bool} (hv : v.oneCell' = true) : (arr 38 (rjF s v l dn)).all (·.oneCell') = true := by
  rw [arr_list]
  simp only [List.all_toArray, List.all_map, List.all_eq_true, List.mem_range]
  intro j hj
  match j with
  | 0 => rfl
  | 1 => rfl
  | 2 => rfl
  | 3 => rfl
  | 4 => exact hv
  | k + 5 =>
    show (if k < 32 then bv (l k) else .bool dn : Value).oneCell' = true
    split <;> rfl
theorem len3_size {b : List UInt8} (h : 3 ≤ b.length) : len3 (sizeJ b) = b.take 3 := by
  match b, h with
  | x :: y :: z :: r, _ =>
    have hx := x.toNat_lt
    have hy := y.toNat_lt
    have hz := z.toNat_lt
    have e : sizeJ (x :: y :: z :: r) = x.toNat * 65536 + y.toNat * 256 + z.toNat := rfl
    unfold len3
    rw [e]
    show [_, _, _] = [x, y, z]
    congr 1
    · apply UInt8.toNat_inj.1
      rw [UInt8.toNat_ofNat']
      omega
    congr 1
    · apply UInt8.toNat_inj.1
      rw [UInt8.toNat_ofNat']
      omega
    congr 1
    apply UInt8.toNat_inj.1
    rw [UInt8.toNat_ofNat']
    omega
theorem beq_app (p x y : List UInt8) : (p ++ x == p ++ y) = (x == y) := by
  rw [Bool.eq_iff_iff, beq_iff_eq, beq_iff_eq, List.append_cancel_left_eq]
theorem front_iff (a : Nat → UInt8) {b : List UInt8} (h : 35 ≤ b.length) : (b.take 19 == frontB a (sizeJ b)) = ((b.take 19).drop 3 == ownB a (b.take 3)) := by
  have e : b.take 19 = b.take 3 ++ (b.take 19).drop 3 := by
    have h := (List.take_append_drop 3 (b.take 19)).symm
    rw [List.take_take] at h
    exact h
  have e2 : frontB a (sizeJ b) = b.take 3 ++ ownB a (b.take 3) := by
    unfold frontB ownB
    rw [len3_size (by omega)]
  rw [e2]
  conv => lhs; rw [e]
  exact beq_app _ _ _
theorem rec_iff (a : Nat → UInt8) {b : List UInt8} (_h : 35 ≤ b.length) (hf : (b.take 19 == frontB a (sizeJ b)) = true) (hs : sizeJ b ≤ b.length - 35) :
    (b.take (35 + sizeJ b) == recB a (dataJ b)) = ((b.take 35).drop 19 == (id32 (withD a (dataJ b))).take 16) := by
  have hd : (dataJ b).length = sizeJ b := by unfold dataJ; rw [List.length_take, List.length_drop]; omega
  have e1 : b.take (35 + sizeJ b) = b.take 19 ++ ((b.take 35).drop 19 ++ dataJ b) := by
    have h1 : b.take (35 + sizeJ b) = b.take 35 ++ dataJ b := by unfold dataJ; rw [List.take_add]
    have h2 : b.take 35 = b.take 19 ++ (b.take 35).drop 19 := by
      have h := (List.take_append_drop 19 (b.take 35)).symm
      rw [List.take_take] at h
      exact h
    rw [h1, ← List.append_assoc, ← h2]
  rw [e1]
  unfold recB
  rw [hd, ← beq_iff_eq.1 hf, beq_app, Bool.eq_iff_iff, beq_iff_eq, beq_iff_eq]
  exact List.append_left_inj _
theorem own_neR {W : World} {B k n g : Nat} {e t : TypeId} {v : Value} {xs : List Value} {cs : Array Value} (h : W.ownsRow B e k v n xs) (hb : Blk W g t cs) (ht : t ≠ e) : v.ownBlock ≠ some g := fun he => by
  rcases h.2 with ⟨rfl, _⟩ | ⟨g', cap, cur, rfl, _, q, _⟩
  · cases he
  · have := Option.some.inj he
    subst this
    have hb' := hb
    unfold Blk at hb'
    rw [q] at hb'
    injection hb' with hb'
    injection hb' with _ h2 _
    exact ht h2.symm
/-- A part of what is left of a text. -/
theorem cutJ (bs : List UInt8) (p i j : Nat) (zi zj : Int) (hi : zi = ((p + i : Nat) : Int)) (hj : zj = ((p + j : Nat) : Int)) (hij : i ≤ j) (h : p + j ≤ bs.length) (W : World) : (Instr.sliceAt 9 (.string ⟨bs.toArray⟩) (some (.int .i64 zi)) (some (.int .i64 zj)) none).run Tryd.prog W = .ok (.string ⟨(((bs.drop p).take j).drop i).toArray⟩) W := by
  have h1 := cut_str bs (p + i) (p + j) zi zj hi hj (by omega) h W
  rw [h1]
  have e : (bs.take (p + j)).drop (p + i) = ((bs.drop p).take j).drop i := by
    rw [← List.drop_drop, List.drop_take, show p + j - p = j by omega]
  rw [e]
end Go.Proofs.YtgpbpdjamimbfaaDoor
