/-
  Three leaves: the sums of their nodes, by the kernel. No condition.
-/
import Derived.Test.YtdfgffmefonelaaDoorPrfOut
import Derived.Test.YtdfgffmefonelaaDoorPrfCon
import Derived.Test.YtdfgffmefonelaaDoorTreeGo
namespace Go.Proofs.YtdfgffmefonelaaDoor
open Go Go.RowKit Go.Shelf TreeM

def d3 : D := fun i => if i = 0 then 3 else 0
/-- A node's bytes from its parts' bytes. -/
theorem node_known (a b : D) (ns ws : List Nat) (hab : (1 :: (idl a ++ idl b) : List UInt8) = ns.map UInt8.ofNat) (hn : ns.length = 65) (ha : ns.all (· < 256) = true) (h : KSha.sha ns 65 = ws) (i : Nat) (hi : i < 32) : node a b i = UInt8.ofNat ((KSha.digest ws).getD i 0) := by
  unfold node
  rw [hab, sha_known ns 65 ws hn (by omega) ha h i hi]
theorem node_bytes (a b : D) (ns ws bs : List Nat) (hab : (1 :: (idl a ++ idl b) : List UInt8) = ns.map UInt8.ofNat) (hn : ns.length = 65) (ha : ns.all (· < 256) = true) (h : KSha.sha ns 65 = ws) (hb : (List.range 32).map (fun i => UInt8.ofNat ((KSha.digest ws).getD i 0)) = bs.map UInt8.ofNat) : idl (node a b) = bs.map UInt8.ofNat := by
  rw [← hb]
  unfold idl
  refine List.map_congr_left fun i hi => ?_
  exact node_known a b ns ws hab hn ha h i (List.mem_range.1 hi)
theorem s12_sum : KSha.sha [1, 1, 0, 0, 0, 0, 0, 0, 0, 0, 0, 0, 0, 0, 0, 0, 0, 0, 0, 0, 0, 0, 0, 0, 0, 0, 0, 0, 0, 0, 0, 0, 0, 2, 0, 0, 0, 0, 0, 0, 0, 0, 0, 0, 0, 0, 0, 0, 0, 0, 0, 0, 0, 0, 0, 0, 0, 0, 0, 0, 0, 0, 0, 0, 0] 65 = [2135979342, 3817840691, 401432574, 1328208148, 2156220330, 4183132268, 3615552372, 4200956662] := by kernel_rfl
theorem s12_bytes : idl (node d1 d2) = ([127, 80, 117, 78, 227, 143, 160, 51, 23, 237, 95, 254, 79, 42, 217, 20, 128, 133, 79, 170, 249, 85, 136, 108, 215, 128, 243, 116, 250, 101, 130, 246] : List Nat).map UInt8.ofNat :=
  node_bytes d1 d2 [1, 1, 0, 0, 0, 0, 0, 0, 0, 0, 0, 0, 0, 0, 0, 0, 0, 0, 0, 0, 0, 0, 0, 0, 0, 0, 0, 0, 0, 0, 0, 0, 0, 2, 0, 0, 0, 0, 0, 0, 0, 0, 0, 0, 0, 0, 0, 0, 0, 0, 0, 0, 0, 0, 0, 0, 0, 0, 0, 0, 0, 0, 0, 0, 0] [2135979342, 3817840691, 401432574, 1328208148, 2156220330, 4183132268, 3615552372, 4200956662] _ (by decide) rfl (by decide) s12_sum (by decide)
theorem s11_sum : KSha.sha [1, 1, 0, 0, 0, 0, 0, 0, 0, 0, 0, 0, 0, 0, 0, 0, 0, 0, 0, 0, 0, 0, 0, 0, 0, 0, 0, 0, 0, 0, 0, 0, 0, 1, 0, 0, 0, 0, 0, 0, 0, 0, 0, 0, 0, 0, 0, 0, 0, 0, 0, 0, 0, 0, 0, 0, 0, 0, 0, 0, 0, 0, 0, 0, 0] 65 = [2365017671, 1554047963, 3879370364, 1383908444, 3051411682, 1249995468, 3179351797, 3164178182] := by kernel_rfl
theorem s11_bytes : idl (node d1 d1) = ([140, 247, 78, 71, 92, 160, 227, 219, 231, 58, 126, 124, 82, 124, 196, 92, 181, 224, 216, 226, 74, 129, 106, 204, 189, 129, 14, 245, 188, 153, 135, 6] : List Nat).map UInt8.ofNat :=
  node_bytes d1 d1 [1, 1, 0, 0, 0, 0, 0, 0, 0, 0, 0, 0, 0, 0, 0, 0, 0, 0, 0, 0, 0, 0, 0, 0, 0, 0, 0, 0, 0, 0, 0, 0, 0, 1, 0, 0, 0, 0, 0, 0, 0, 0, 0, 0, 0, 0, 0, 0, 0, 0, 0, 0, 0, 0, 0, 0, 0, 0, 0, 0, 0, 0, 0, 0, 0] [2365017671, 1554047963, 3879370364, 1383908444, 3051411682, 1249995468, 3179351797, 3164178182] _ (by decide) rfl (by decide) s11_sum (by decide)
theorem s123_sum : KSha.sha [1, 127, 80, 117, 78, 227, 143, 160, 51, 23, 237, 95, 254, 79, 42, 217, 20, 128, 133, 79, 170, 249, 85, 136, 108, 215, 128, 243, 116, 250, 101, 130, 246, 3, 0, 0, 0, 0, 0, 0, 0, 0, 0, 0, 0, 0, 0, 0, 0, 0, 0, 0, 0, 0, 0, 0, 0, 0, 0, 0, 0, 0, 0, 0, 0] 65 = [4021629554, 2879719267, 33528900, 448794782, 3871326825, 3264262713, 1383900214, 4033802321] := by kernel_rfl
theorem s123_first : node (node d1 d2) d3 0 = 239 := by
  rw [node_known (node d1 d2) d3 [1, 127, 80, 117, 78, 227, 143, 160, 51, 23, 237, 95, 254, 79, 42, 217, 20, 128, 133, 79, 170, 249, 85, 136, 108, 215, 128, 243, 116, 250, 101, 130, 246, 3, 0, 0, 0, 0, 0, 0, 0, 0, 0, 0, 0, 0, 0, 0, 0, 0, 0, 0, 0, 0, 0, 0, 0, 0, 0, 0, 0, 0, 0, 0, 0] [4021629554, 2879719267, 33528900, 448794782, 3871326825, 3264262713, 1383900214, 4033802321] (by rw [s12_bytes]; decide) rfl (by decide) s123_sum 0 (by omega)]
  decide
theorem s113_sum : KSha.sha [1, 140, 247, 78, 71, 92, 160, 227, 219, 231, 58, 126, 124, 82, 124, 196, 92, 181, 224, 216, 226, 74, 129, 106, 204, 189, 129, 14, 245, 188, 153, 135, 6, 3, 0, 0, 0, 0, 0, 0, 0, 0, 0, 0, 0, 0, 0, 0, 0, 0, 0, 0, 0, 0, 0, 0, 0, 0, 0, 0, 0, 0, 0, 0, 0] 65 = [4157551564, 3715909290, 1504139563, 3073630976, 4168956536, 42972845, 4246210473, 3136773830] := by kernel_rfl
theorem s113_first : node (node d1 d1) d3 0 = 247 := by
  rw [node_known (node d1 d1) d3 [1, 140, 247, 78, 71, 92, 160, 227, 219, 231, 58, 126, 124, 82, 124, 196, 92, 181, 224, 216, 226, 74, 129, 106, 204, 189, 129, 14, 245, 188, 153, 135, 6, 3, 0, 0, 0, 0, 0, 0, 0, 0, 0, 0, 0, 0, 0, 0, 0, 0, 0, 0, 0, 0, 0, 0, 0, 0, 0, 0, 0, 0, 0, 0, 0] [4157551564, 3715909290, 1504139563, 3073630976, 4168956536, 42972845, 4246210473, 3136773830] (by rw [s11_bytes]; decide) rfl (by decide) s113_sum 0 (by omega)]
  decide
theorem prf_neq : (id32 (node (node d1 d1) d3) == id32 (node (node d1 d2) d3)) = false := by
  refine beq_eq_false_iff_ne.2 fun hq => ?_
  have := congrArg (fun l : List UInt8 => l[0]?) hq
  simp [id32, s123_first, s113_first] at this
theorem mth_three : mth [d1, d2, d3] = node (node d1 d2) d3 := by
  rw [mth_halves (by simp)]
  have h : half [d1, d2, d3].length = 2 := by show half 3 = 2; decide
  rw [h]
  simp [mth_one, mth_two]
theorem way_three : wayP 1 0 3 = [(2, 3), (0, 1)] := by
  rw [wayP_step (by omega), show besP 1 0 3 = (2, 3) from by decide, show inP 1 0 3 = (0, 2) from by decide, wayP_step (by simp), show besP 1 (0, 2).1 (0, 2).2 = (0, 1) from by decide, show inP 1 (0, 2).1 (0, 2).2 = (1, 2) from by decide, wayP_end (by simp)]
theorem link_three : linkP 2 0 3 = [(2, 3)] := by
  rw [linkP_step (by omega) (by omega), show besP (2 - 1) 0 3 = (2, 3) from by decide, show inP (2 - 1) 0 3 = (0, 2) from by decide, linkP_end (by simp)]
  simp
theorem inc_three : (wayP 1 0 [d1, d2, d3].length).reverse.map (rtP [d1, d2, d3]) = [d1, d3] := by
  rw [show [d1, d2, d3].length = 3 from rfl, way_three]
  simp [rtP, mth_one]
theorem con_three : (linkP 2 0 [d1, d2, d3].length).reverse.map (rtP [d1, d2, d3]) = [d3] := by
  rw [show [d1, d2, d3].length = 3 from rfl, link_three]
  simp [rtP, mth_one]
theorem cinc_yes : cincV d2 1 3 [d1, d3] (mth [d1, d2, d3]) = 0 := by
  unfold cincV
  rw [if_neg (by omega), show (1 : Int).toNat = 1 from rfl, show (3 : Int).toNat = 3 from rfl, way_three, if_neg (by simp), mth_three]
  simp [leadP]
theorem cinc_no : cincV d1 1 3 [d1, d3] (mth [d1, d2, d3]) = 60 := by
  unfold cincV
  rw [if_neg (by omega), show (1 : Int).toNat = 1 from rfl, show (3 : Int).toNat = 3 from rfl, way_three, if_neg (by simp), mth_three]
  have := prf_neq
  simp [leadP, this]
theorem ccon_yes : cconV 2 3 (mth [d1, d2]) (mth [d1, d2, d3]) [d3] = 0 := by
  unfold cconV
  rw [if_neg (by omega), show (2 : Int).toNat = 2 from rfl, show (3 : Int).toNat = 3 from rfl, link_three, if_neg (by simp), mth_three, mth_two]
  simp [bothP]
end Go.Proofs.YtdfgffmefonelaaDoor
