/-
  The reference's slab: Crash and Spoil. No condition.
-/
import Derived.Test.YtnkaapghjgnliaaSlabRefB
import Derived.BigRegion
import Derived.RegionTactic
import Derived.ChangeAlike
import Derived.IntWalk
import Derived.Test.YtnkaapghjgnliaaFrame
namespace Go.Proofs.Ytnkaapghjgnliaa
open Go Go.RowKit Go.Shelf

set_option maxHeartbeats 2000000 in
theorem refCrash_any (s : SlabS) (hs : s.Ok) (k : Int) (w : World) :
    Calls Try.prog 19 #[s.v, .int .i64 k] w fun e w' => e = .returned (s.crash k).v ∧ Below w.heap.size w w' := by
  have h1 := hs.fits
  have h2 := hs.room
  have h3 := hs.sure
  have hsz2 : (⟨s.bs.toArray⟩ : ByteArray).size = s.bs.length := ba_len _
  have hle := left_le hs k
  obtain ⟨n, hn⟩ : ∃ n, s.left k = n := ⟨_, rfl⟩
  have HE : Hid (s.crash k = { s with bs := s.bs.take n, sure := n, pow := -1 }) := Lib.hid (by unfold SlabS.crash; rw [hn])
  have hn2 : s.sure + (min (max k 0) ((s.bs.length : Int) - s.sure)).toNat = n := hn
  rw [hn] at hle
  have es := fun W => to_str s.bs n (by omega) W
  have hsz3 : (⟨(s.bs.take n).toArray⟩ : ByteArray).size = n := by rw [ba_len, List.length_take]; omega
  have hsub : 0 ≤ (s.bs.length : Int) - (s.sure : Int) := by omega
  rw [HE.out]
  clear hn hs
  unfold SlabS.v
  by_cases h0 : k < 0
  · obtain rfl : n = s.sure := by omega
    have m1 : ¬ (s.bs.length : Int) - (s.sure : Int) < 0 := by omega
    clear hn2
    go_enter Try.func19, Try.ntmps19
    go_wp2
    exact ref_end1 rfl (w.heap.size + 1) _ _ _ _ rfl (Blk.newAt _ _ (by simp) rfl) rfl ⟨rfl, b2 _ _ _ _ _⟩
  · by_cases hb : (s.bs.length : Int) - (s.sure : Int) < k
    · have hA : (s.sure : Int) + ((s.bs.length : Int) - (s.sure : Int)) = (n : Int) := by omega
      clear hn2
      go_enter Try.func19, Try.ntmps19
      go_wp2
      exact ref_end1 rfl (w.heap.size + 1) _ _ _ _ rfl (Blk.newAt _ _ (by simp) rfl) rfl ⟨rfl, b2 _ _ _ _ _⟩
    · have hA : (s.sure : Int) + k = (n : Int) := by omega
      clear hn2
      go_enter Try.func19, Try.ntmps19
      go_wp2
      exact ref_end1 rfl (w.heap.size + 1) _ _ _ _ rfl (Blk.newAt _ _ (by simp) rfl) rfl ⟨rfl, b2 _ _ _ _ _⟩
theorem conv_one (w : World) (a b : Array Value) (t : TypeId) (x : UInt8) : (convert 32 9 (.slice (some ⟨w.heap.size + 1 + 1, 0, none⟩) 1 1)).run Try.prog (((w.alloc (.cells a t)).alloc (.cells b t)).alloc (.cells #[.int .u8 (x.toNat : Int)] 5)).drew = .ok (.string ⟨[x].toArray⟩) (((w.alloc (.cells a t)).alloc (.cells b t)).alloc (.cells #[.int .u8 (x.toNat : Int)] 5)).drew :=
  str_rd (ok := fun _ => True) (rdB_blk (N := 1) (t := 5) (f := fun _ => bv x) (Blk.drew (Blk.newAt _ _ (by simp) (by rw [arr_list]; rfl))) (fun i hi => by
    obtain rfl : i = 0 := by omega
    rfl) rfl (by omega) (by omega) (by omega) trivial)
theorem set_parts (bs : List UInt8) (n : Nat) (x : UInt8) (h : n < bs.length) : bs.take n ++ [x] ++ bs.drop (n + 1) = bs.set n x := by
  rw [List.set_eq_take_append_cons_drop, if_pos h, List.append_assoc]; rfl
set_option maxRecDepth 100000 in
set_option maxHeartbeats 2000000 in
theorem refSpoil_any (s : SlabS) (hs : s.Ok) (k : Int) (x : UInt8) (w : World) :
    Calls Try.prog 21 #[s.v, .int .i64 k, .int .u8 (x.toNat : Int)] w fun e w' => e = .returned (.tuple #[(s.spoil k x).1.v, .int .i64 (s.spoil k x).2]) ∧ Below w.heap.size w w' := by
  have h1 := hs.fits
  have h2 := hs.room
  have hsz2 : (⟨s.bs.toArray⟩ : ByteArray).size = s.bs.length := ba_len _
  clear hs
  by_cases hk : k < 0
  · have HE : Hid (s.spoil k x = (s, 1)) := Lib.hid (by unfold SlabS.spoil; rw [if_pos (.inl hk)])
    have d0 : decide (k < 0) = true := decide_eq_true hk
    rw [HE.out]
    unfold SlabS.v
    go_enter Try.func21, Try.ntmps21
    go_wp2
    exact ref_end rfl (w.heap.size + 1) _ _ _ _ rfl (Blk.newAt _ _ (by simp) rfl) rfl ⟨rfl, b2 _ _ _ _ _⟩
  · have d0 : decide (k < 0) = false := decide_eq_false hk
    by_cases hk2 : (s.bs.length : Int) ≤ k
    · have HE : Hid (s.spoil k x = (s, 1)) := Lib.hid (by unfold SlabS.spoil; rw [if_pos (.inr hk2)])
      have d1 : decide ((s.bs.length : Int) ≤ k) = true := decide_eq_true hk2
      rw [HE.out]
      unfold SlabS.v
      go_enter Try.func21, Try.ntmps21
      go_wp2
      exact ref_end rfl (w.heap.size + 1) _ _ _ _ rfl (Blk.newAt _ _ (by simp) rfl) rfl ⟨rfl, b2 _ _ _ _ _⟩
    · have d1 : decide ((s.bs.length : Int) ≤ k) = false := decide_eq_false hk2
      obtain ⟨n, rfl⟩ := Int.eq_ofNat_of_zero_le (show 0 ≤ k by omega)
      have HE : Hid (s.spoil (n : Int) x = ({ s with bs := s.bs.take n ++ [x] ++ s.bs.drop (n + 1) }, 0)) := Lib.hid (by unfold SlabS.spoil; rw [if_neg (by omega), set_parts _ _ _ (by omega)]; rfl)
      have hnl : n < s.bs.length := by omega
      have e1 := fun W => to_str s.bs n (by omega) W
      have e2 := fun W => from_str s.bs (n + 1) (by omega) W
      rw [show (((n + 1 : Nat)) : Int) = (n : Int) + 1 from by omega] at e2
      have e3 := conv_one w #[.int .i64 (s.room : Int), .int .i64 (s.sure : Int), .int .i64 (nrm s.pow), .string ⟨s.bs.toArray⟩] #[.int .i64 0, .int .i64 0, .int .i64 0, .string ⟨#[]⟩] 29 x
      have e4 := fun W => add_str (s.bs.take n) [x] (by rw [List.length_take]; simp; omega) W
      have e5 := fun W => add_str (s.bs.take n ++ [x]) (s.bs.drop (n + 1)) (by simp; omega) W
      have b1 : (n : Int) ≤ 4194304 := by omega
      have b2' : (n : Int) < (s.bs.length : Int) := by omega
      have b3 : (n : Int) + 1 ≤ (s.bs.length : Int) := by omega
      have b4 : IntKind.i64.wrap ((n : Int) + 1) = (n : Int) + 1 := IntWalk.i64_in _ (by omega)
      have b5 : 0 ≤ (n : Int) + 1 := by omega
      obtain ⟨T, hT⟩ : ∃ T, s.bs.take n = T := ⟨_, rfl⟩
      obtain ⟨X, hX⟩ : ∃ X, [x] = X := ⟨_, rfl⟩
      obtain ⟨V, hV⟩ : ∃ V, s.bs.drop (n + 1) = V := ⟨_, rfl⟩
      rw [hT] at e1 HE
      rw [hT] at e4 e5
      rw [hX] at e3 HE
      rw [hX] at e4 e5
      rw [hV] at e2 HE
      rw [hV] at e5
      obtain ⟨U, hU⟩ : ∃ U, T ++ X = U := ⟨_, rfl⟩
      rw [hU] at e4 HE
      rw [hU] at e5
      obtain ⟨R, hR⟩ : ∃ R, U ++ V = R := ⟨_, rfl⟩
      rw [hR] at HE e5
      clear hT hX hV hU hR
      rw [HE.out]
      clear hk hk2 h1 h2
      unfold SlabS.v
      go_enter Try.func21, Try.ntmps21
      go_wp2
      go_region
      go_wp2
      exact ref_end rfl (w.heap.size + 1) _ _ _ _ rfl (Blk.drew (Blk.alloc (Blk.newAt _ _ (by simp) rfl) _)) rfl ⟨rfl, Below.drew (var_alloc (b2 _ _ _ _ _) _)⟩
end Go.Proofs.Ytnkaapghjgnliaa
