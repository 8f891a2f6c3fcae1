/-
  Whole sums are the tree's; the sum of 'abc', and of the leaves 'a' and 'b', by the kernel. No condition.
-/
import Derived.Test.YtlnapnbccojohaaDoorShEq
import Derived.Test.YtlnapnbccojohaaDoorTreeEnt
import Derived.Test.YtlnapnbccojohaaDoorKSha
namespace Go.Proofs.YtlnapnbccojohaaDoor
open Go Go.RowKit Go.Shelf TreeM

theorem abc_sum : KSha.sha [97, 98, 99] 3 = [3128432319, 2399260650, 1094795486, 1571693091, 2953011619, 2518121116, 3021012833, 4060091821] := by kernel_rfl
theorem la_sum : KSha.sha [0, 97] 2 = [36333945, 3873093546, 1524941797, 3831463575, 1897048038, 898859533, 3200380019, 2317678908] := by kernel_rfl
theorem lb_sum : KSha.sha [0, 98] 2 = [1475032417, 1564996430, 3340028621, 4127028320, 2321452560, 656730123, 615679936, 3262868017] := by kernel_rfl
theorem lab_sum : KSha.sha [1, 2, 42, 105, 121, 230, 218, 183, 170, 90, 228, 195, 229, 228, 95, 126, 151, 113, 18, 167, 230, 53, 147, 130, 13, 190, 193, 236, 115, 138, 36, 249, 60, 87, 235, 53, 97, 93, 71, 243, 78, 199, 20, 202, 205, 245, 253, 116, 96, 138, 94, 142, 16, 39, 36, 232, 11, 36, 178, 135, 192, 194, 123, 106, 49] 65 = [2973210719, 4102355808, 230240519, 3346727781, 3356326133, 3022642896, 4254545437, 125409771] := by kernel_rfl
theorem bytes_known (ns : List Nat) (n : Nat) (ws bs : List Nat) (hn : ns.length = n) (hs : n < 1000) (ha : ns.all (· < 256) = true) (h : KSha.sha ns n = ws) (hb : (List.range 32).map (fun i => UInt8.ofNat ((KSha.digest ws).getD i 0)) = bs.map UInt8.ofNat) : id32 (sha (ns.map UInt8.ofNat)) = bs.map UInt8.ofNat := by
  rw [← hb]
  unfold id32
  refine List.map_congr_left fun i hi => ?_
  exact sha_known ns n ws hn (by omega) ha h i (List.mem_range.1 hi)
theorem la_bytes : id32 (sha [0, 97]) = ([2, 42, 105, 121, 230, 218, 183, 170, 90, 228, 195, 229, 228, 95, 126, 151, 113, 18, 167, 230, 53, 147, 130, 13, 190, 193, 236, 115, 138, 36, 249, 60] : List Nat).map UInt8.ofNat := bytes_known [0, 97] 2 _ _ rfl (by decide) (by decide) la_sum (by decide)
theorem lb_bytes : id32 (sha [0, 98]) = ([87, 235, 53, 97, 93, 71, 243, 78, 199, 20, 202, 205, 245, 253, 116, 96, 138, 94, 142, 16, 39, 36, 232, 11, 36, 178, 135, 192, 194, 123, 106, 49] : List Nat).map UInt8.ofNat := bytes_known [0, 98] 2 _ _ rfl (by decide) (by decide) lb_sum (by decide)
theorem abc_bytes : id32 (sha [97, 98, 99]) = ([186, 120, 22, 191, 143, 1, 207, 234, 65, 65, 64, 222, 93, 174, 34, 35, 176, 3, 97, 163, 150, 23, 122, 156, 180, 16, 255, 97, 242, 0, 21, 173] : List Nat).map UInt8.ofNat := bytes_known [97, 98, 99] 3 _ _ rfl (by decide) (by decide) abc_sum (by decide)
theorem lab_bytes : id32 (sha (([1, 2, 42, 105, 121, 230, 218, 183, 170, 90, 228, 195, 229, 228, 95, 126, 151, 113, 18, 167, 230, 53, 147, 130, 13, 190, 193, 236, 115, 138, 36, 249, 60, 87, 235, 53, 97, 93, 71, 243, 78, 199, 20, 202, 205, 245, 253, 116, 96, 138, 94, 142, 16, 39, 36, 232, 11, 36, 178, 135, 192, 194, 123, 106, 49] : List Nat).map UInt8.ofNat)) = ([177, 55, 152, 95, 244, 132, 251, 96, 13, 185, 49, 7, 199, 123, 3, 101, 200, 13, 120, 245, 180, 41, 222, 208, 253, 151, 54, 29, 7, 121, 153, 235] : List Nat).map UInt8.ofNat := bytes_known _ 65 _ _ rfl (by decide) (by decide) lab_sum (by decide)
theorem id32_cut (c : Int) (f : D) (h : cnt c = 32) : id32 (cutD c f) = id32 f := by
  unfold id32
  refine List.map_congr_left fun i hi => ?_
  unfold cutD
  rw [if_pos (by have := List.mem_range.1 hi; omega)]
theorem abc_cut : (id32 (cutD 2 (sha [97, 98, 99])) == id32 (fun i => if i = 0 then 186 else if i = 1 then 120 else 0)) = true := by
  rw [beq_iff_eq]
  have h0 : sha [97, 98, 99] 0 = 186 := by
    have := congrArg (fun l : List UInt8 => l[0]?) abc_bytes
    simpa [id32] using this
  have h1 : sha [97, 98, 99] 1 = 120 := by
    have := congrArg (fun l : List UInt8 => l[1]?) abc_bytes
    simpa [id32] using this
  unfold id32
  refine List.map_congr_left fun i hi => ?_
  unfold cutD
  have hc : cnt 2 = 2 := by decide
  rw [hc]
  by_cases h2 : i < 2
  · rw [if_pos h2]
    have : i = 0 ∨ i = 1 := by omega
    rcases this with rfl | rfl
    · rw [h0]; rfl
    · rw [h1]; rfl
  · rw [if_neg h2, if_neg (by omega), if_neg (by omega)]
theorem node_idl (a b a' b' : D) (h1 : id32 a = id32 a') (h2 : id32 b = id32 b') : node a b = node a' b' := by
  unfold node
  have e : ∀ f : D, idl f = id32 f := fun _ => rfl
  rw [e, e, e, e, h1, h2]
/-- Whole sums are the tree's. -/
theorem rootC_whole (c : Int) (hc : cnt c = 32) : ∀ (n : Nat) (ps : List (List UInt8)), ps.length = n → id32 (rootC c ps) = id32 (mth (ps.map leafD)) := by
  intro n
  induction n using Nat.strongRecOn with
  | _ n ih =>
    intro ps hn
    unfold rootC
    rw [id32_cut c _ hc]
    by_cases h2 : 2 ≤ n
    · have hkl := half_lt (n := n) h2
      have hkp := half_pos n
      rw [topC_two hn rfl h2, mth_halves (by rw [List.length_map, hn]; exact h2), List.length_map, hn, ← List.map_take, ← List.map_drop]
      have i1 := ih (half n) hkl (ps.take (half n)) (by rw [List.length_take]; omega)
      have i2 := ih (n - half n) (by omega) (ps.drop (half n)) (by rw [List.length_drop]; omega)
      rw [← node_idl _ _ _ _ i1 i2]
      rfl
    · match ps, hn with
      | [], _ => rw [topC_none, List.map_nil, mth_nil]
      | [p], _ => rw [topC_one, List.map_cons, List.map_nil, mth_one]; rfl
      | _ :: _ :: _, hn => simp at hn; omega
theorem rootC_ab : (id32 (rootC 32 [[97], [98]]) == id32 (fun _ => 0)) = false := by
  have hc : cnt 32 = 32 := by decide
  have e : ([1, 2, 42, 105, 121, 230, 218, 183, 170, 90, 228, 195, 229, 228, 95, 126, 151, 113, 18, 167, 230, 53, 147, 130, 13, 190, 193, 236, 115, 138, 36, 249, 60, 87, 235, 53, 97, 93, 71, 243, 78, 199, 20, 202, 205, 245, 253, 116, 96, 138, 94, 142, 16, 39, 36, 232, 11, 36, 178, 135, 192, 194, 123, 106, 49] : List Nat).map UInt8.ofNat = 1 :: (id32 (rootC 32 [[97]]) ++ id32 (rootC 32 [[98]])) := by
    unfold rootC
    rw [id32_cut 32 _ hc, id32_cut 32 _ hc, topC_one, topC_one, la_bytes, lb_bytes]
    rfl
  have h : id32 (rootC 32 [[97], [98]]) = ([177, 55, 152, 95, 244, 132, 251, 96, 13, 185, 49, 7, 199, 123, 3, 101, 200, 13, 120, 245, 180, 41, 222, 208, 253, 151, 54, 29, 7, 121, 153, 235] : List Nat).map UInt8.ofNat := by
    rw [← lab_bytes, e]
    conv => lhs; unfold rootC
    rw [id32_cut 32 _ hc, topC_two (n := 2) (K := 1) rfl (by decide) (by omega)]
    rfl
  rw [h]
  decide
end Go.Proofs.YtlnapnbccojohaaDoor
