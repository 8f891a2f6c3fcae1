/-
  The sum of the three letters 'abc', reckoned step by step by the kernel. No condition.
-/
import Derived.Test.YtghjdelijmlemaaDoorMath
import Derived.KernelRfl
namespace Go.Proofs.YtghjdelijmlemaaDoor
open Go

def abc : List UInt8 := [97, 98, 99]
/-- Their one block. -/
def abcB : Nat → UInt8 := tailB 24 (headB (fullBlk abc 0) 3)
theorem abc_blocks : allBlocks abc = [abcB] := rfl

theorem aw0 : wv abcB 0 = 1633837952 := (wv_first abcB 0 (by omega)).trans (by kernel_rfl)
theorem aw1 : wv abcB 1 = 0 := (wv_first abcB 1 (by omega)).trans (by kernel_rfl)
theorem aw2 : wv abcB 2 = 0 := (wv_first abcB 2 (by omega)).trans (by kernel_rfl)
theorem aw3 : wv abcB 3 = 0 := (wv_first abcB 3 (by omega)).trans (by kernel_rfl)
theorem aw4 : wv abcB 4 = 0 := (wv_first abcB 4 (by omega)).trans (by kernel_rfl)
theorem aw5 : wv abcB 5 = 0 := (wv_first abcB 5 (by omega)).trans (by kernel_rfl)
theorem aw6 : wv abcB 6 = 0 := (wv_first abcB 6 (by omega)).trans (by kernel_rfl)
theorem aw7 : wv abcB 7 = 0 := (wv_first abcB 7 (by omega)).trans (by kernel_rfl)
theorem aw8 : wv abcB 8 = 0 := (wv_first abcB 8 (by omega)).trans (by kernel_rfl)
theorem aw9 : wv abcB 9 = 0 := (wv_first abcB 9 (by omega)).trans (by kernel_rfl)
theorem aw10 : wv abcB 10 = 0 := (wv_first abcB 10 (by omega)).trans (by kernel_rfl)
theorem aw11 : wv abcB 11 = 0 := (wv_first abcB 11 (by omega)).trans (by kernel_rfl)
theorem aw12 : wv abcB 12 = 0 := (wv_first abcB 12 (by omega)).trans (by kernel_rfl)
theorem aw13 : wv abcB 13 = 0 := (wv_first abcB 13 (by omega)).trans (by kernel_rfl)
theorem aw14 : wv abcB 14 = 0 := (wv_first abcB 14 (by omega)).trans (by kernel_rfl)
theorem aw15 : wv abcB 15 = 24 := (wv_first abcB 15 (by omega)).trans (by kernel_rfl)
theorem aw16 : wv abcB 16 = 1633837952 := by
  have h := wv_next abcB 16 (by omega)
  simp only [Nat.reduceSub, aw0, aw1, aw9, aw14] at h
  exact h.trans (by kernel_rfl)
theorem aw17 : wv abcB 17 = 983040 := by
  have h := wv_next abcB 17 (by omega)
  simp only [Nat.reduceSub, aw1, aw2, aw10, aw15] at h
  exact h.trans (by kernel_rfl)
theorem aw18 : wv abcB 18 = 2108187653 := by
  have h := wv_next abcB 18 (by omega)
  simp only [Nat.reduceSub, aw2, aw3, aw11, aw16] at h
  exact h.trans (by kernel_rfl)
theorem aw19 : wv abcB 19 = 1610613702 := by
  have h := wv_next abcB 19 (by omega)
  simp only [Nat.reduceSub, aw3, aw4, aw12, aw17] at h
  exact h.trans (by kernel_rfl)
theorem aw20 : wv abcB 20 = 1050508152 := by
  have h := wv_next abcB 20 (by omega)
  simp only [Nat.reduceSub, aw4, aw5, aw13, aw18] at h
  exact h.trans (by kernel_rfl)
theorem aw21 : wv abcB 21 = 25426944 := by
  have h := wv_next abcB 21 (by omega)
  simp only [Nat.reduceSub, aw5, aw6, aw14, aw19] at h
  exact h.trans (by kernel_rfl)
theorem aw22 : wv abcB 22 = 316456923 := by
  have h := wv_next abcB 22 (by omega)
  simp only [Nat.reduceSub, aw6, aw7, aw15, aw20] at h
  exact h.trans (by kernel_rfl)
theorem aw23 : wv abcB 23 = 3806512014 := by
  have h := wv_next abcB 23 (by omega)
  simp only [Nat.reduceSub, aw7, aw8, aw16, aw21] at h
  exact h.trans (by kernel_rfl)
theorem aw24 : wv abcB 24 = 3357629466 := by
  have h := wv_next abcB 24 (by omega)
  simp only [Nat.reduceSub, aw8, aw9, aw17, aw22] at h
  exact h.trans (by kernel_rfl)
theorem aw25 : wv abcB 25 = 3073800610 := by
  have h := wv_next abcB 25 (by omega)
  simp only [Nat.reduceSub, aw9, aw10, aw18, aw23] at h
  exact h.trans (by kernel_rfl)
theorem aw26 : wv abcB 26 = 3854317833 := by
  have h := wv_next abcB 26 (by omega)
  simp only [Nat.reduceSub, aw10, aw11, aw19, aw24] at h
  exact h.trans (by kernel_rfl)
theorem aw27 : wv abcB 27 = 845560923 := by
  have h := wv_next abcB 27 (by omega)
  simp only [Nat.reduceSub, aw11, aw12, aw20, aw25] at h
  exact h.trans (by kernel_rfl)
theorem aw28 : wv abcB 28 = 2636160359 := by
  have h := wv_next abcB 28 (by omega)
  simp only [Nat.reduceSub, aw12, aw13, aw21, aw26] at h
  exact h.trans (by kernel_rfl)
theorem aw29 : wv abcB 29 = 3968280267 := by
  have h := wv_next abcB 29 (by omega)
  simp only [Nat.reduceSub, aw13, aw14, aw22, aw27] at h
  exact h.trans (by kernel_rfl)
theorem aw30 : wv abcB 30 = 1881225380 := by
  have h := wv_next abcB 30 (by omega)
  simp only [Nat.reduceSub, aw14, aw15, aw23, aw28] at h
  exact h.trans (by kernel_rfl)
theorem aw31 : wv abcB 31 = 3552024379 := by
  have h := wv_next abcB 31 (by omega)
  simp only [Nat.reduceSub, aw15, aw16, aw24, aw29] at h
  exact h.trans (by kernel_rfl)
theorem aw32 : wv abcB 32 = 2482346367 := by
  have h := wv_next abcB 32 (by omega)
  simp only [Nat.reduceSub, aw16, aw17, aw25, aw30] at h
  exact h.trans (by kernel_rfl)
theorem aw33 : wv abcB 33 = 996719219 := by
  have h := wv_next abcB 33 (by omega)
  simp only [Nat.reduceSub, aw17, aw18, aw26, aw31] at h
  exact h.trans (by kernel_rfl)
theorem aw34 : wv abcB 34 = 2952069057 := by
  have h := wv_next abcB 34 (by omega)
  simp only [Nat.reduceSub, aw18, aw19, aw27, aw32] at h
  exact h.trans (by kernel_rfl)
theorem aw35 : wv abcB 35 = 4043988066 := by
  have h := wv_next abcB 35 (by omega)
  simp only [Nat.reduceSub, aw19, aw20, aw28, aw33] at h
  exact h.trans (by kernel_rfl)
theorem aw36 : wv abcB 36 = 176896406 := by
  have h := wv_next abcB 36 (by omega)
  simp only [Nat.reduceSub, aw20, aw21, aw29, aw34] at h
  exact h.trans (by kernel_rfl)
theorem aw37 : wv abcB 37 = 1924104970 := by
  have h := wv_next abcB 37 (by omega)
  simp only [Nat.reduceSub, aw21, aw22, aw30, aw35] at h
  exact h.trans (by kernel_rfl)
theorem aw38 : wv abcB 38 = 2483675966 := by
  have h := wv_next abcB 38 (by omega)
  simp only [Nat.reduceSub, aw22, aw23, aw31, aw36] at h
  exact h.trans (by kernel_rfl)
theorem aw39 : wv abcB 39 = 610538786 := by
  have h := wv_next abcB 39 (by omega)
  simp only [Nat.reduceSub, aw23, aw24, aw32, aw37] at h
  exact h.trans (by kernel_rfl)
theorem aw40 : wv abcB 40 = 2672279444 := by
  have h := wv_next abcB 40 (by omega)
  simp only [Nat.reduceSub, aw24, aw25, aw33, aw38] at h
  exact h.trans (by kernel_rfl)
theorem aw41 : wv abcB 41 = 4037431130 := by
  have h := wv_next abcB 41 (by omega)
  simp only [Nat.reduceSub, aw25, aw26, aw34, aw39] at h
  exact h.trans (by kernel_rfl)
theorem aw42 : wv abcB 42 = 1042573945 := by
  have h := wv_next abcB 42 (by omega)
  simp only [Nat.reduceSub, aw26, aw27, aw35, aw40] at h
  exact h.trans (by kernel_rfl)
theorem aw43 : wv abcB 43 = 657669027 := by
  have h := wv_next abcB 43 (by omega)
  simp only [Nat.reduceSub, aw27, aw28, aw36, aw41] at h
  exact h.trans (by kernel_rfl)
theorem aw44 : wv abcB 44 = 206005234 := by
  have h := wv_next abcB 44 (by omega)
  simp only [Nat.reduceSub, aw28, aw29, aw37, aw42] at h
  exact h.trans (by kernel_rfl)
theorem aw45 : wv abcB 45 = 2215296807 := by
  have h := wv_next abcB 45 (by omega)
  simp only [Nat.reduceSub, aw29, aw30, aw38, aw43] at h
  exact h.trans (by kernel_rfl)
theorem aw46 : wv abcB 46 = 2049510749 := by
  have h := wv_next abcB 46 (by omega)
  simp only [Nat.reduceSub, aw30, aw31, aw39, aw44] at h
  exact h.trans (by kernel_rfl)
theorem aw47 : wv abcB 47 = 106709978 := by
  have h := wv_next abcB 47 (by omega)
  simp only [Nat.reduceSub, aw31, aw32, aw40, aw45] at h
  exact h.trans (by kernel_rfl)
theorem aw48 : wv abcB 48 = 4215179723 := by
  have h := wv_next abcB 48 (by omega)
  simp only [Nat.reduceSub, aw32, aw33, aw41, aw46] at h
  exact h.trans (by kernel_rfl)
theorem aw49 : wv abcB 49 = 3430291419 := by
  have h := wv_next abcB 49 (by omega)
  simp only [Nat.reduceSub, aw33, aw34, aw42, aw47] at h
  exact h.trans (by kernel_rfl)
theorem aw50 : wv abcB 50 = 3118885940 := by
  have h := wv_next abcB 50 (by omega)
  simp only [Nat.reduceSub, aw34, aw35, aw43, aw48] at h
  exact h.trans (by kernel_rfl)
theorem aw51 : wv abcB 51 = 2845390439 := by
  have h := wv_next abcB 51 (by omega)
  simp only [Nat.reduceSub, aw35, aw36, aw44, aw49] at h
  exact h.trans (by kernel_rfl)
theorem aw52 : wv abcB 52 = 2226839261 := by
  have h := wv_next abcB 52 (by omega)
  simp only [Nat.reduceSub, aw36, aw37, aw45, aw50] at h
  exact h.trans (by kernel_rfl)
theorem aw53 : wv abcB 53 = 3256115900 := by
  have h := wv_next abcB 53 (by omega)
  simp only [Nat.reduceSub, aw37, aw38, aw46, aw51] at h
  exact h.trans (by kernel_rfl)
theorem aw54 : wv abcB 54 = 344409900 := by
  have h := wv_next abcB 54 (by omega)
  simp only [Nat.reduceSub, aw38, aw39, aw47, aw52] at h
  exact h.trans (by kernel_rfl)
theorem aw55 : wv abcB 55 = 2987358873 := by
  have h := wv_next abcB 55 (by omega)
  simp only [Nat.reduceSub, aw39, aw40, aw48, aw53] at h
  exact h.trans (by kernel_rfl)
theorem aw56 : wv abcB 56 = 4015503821 := by
  have h := wv_next abcB 56 (by omega)
  simp only [Nat.reduceSub, aw40, aw41, aw49, aw54] at h
  exact h.trans (by kernel_rfl)
theorem aw57 : wv abcB 57 = 3957764664 := by
  have h := wv_next abcB 57 (by omega)
  simp only [Nat.reduceSub, aw41, aw42, aw50, aw55] at h
  exact h.trans (by kernel_rfl)
theorem aw58 : wv abcB 58 = 2682456414 := by
  have h := wv_next abcB 58 (by omega)
  simp only [Nat.reduceSub, aw42, aw43, aw51, aw56] at h
  exact h.trans (by kernel_rfl)
theorem aw59 : wv abcB 59 = 2025622859 := by
  have h := wv_next abcB 59 (by omega)
  simp only [Nat.reduceSub, aw43, aw44, aw52, aw57] at h
  exact h.trans (by kernel_rfl)
theorem aw60 : wv abcB 60 = 2755645205 := by
  have h := wv_next abcB 60 (by omega)
  simp only [Nat.reduceSub, aw44, aw45, aw53, aw58] at h
  exact h.trans (by kernel_rfl)
theorem aw61 : wv abcB 61 = 1720397816 := by
  have h := wv_next abcB 61 (by omega)
  simp only [Nat.reduceSub, aw45, aw46, aw54, aw59] at h
  exact h.trans (by kernel_rfl)
theorem aw62 : wv abcB 62 = 4004225740 := by
  have h := wv_next abcB 62 (by omega)
  simp only [Nat.reduceSub, aw46, aw47, aw55, aw60] at h
  exact h.trans (by kernel_rfl)
theorem aw63 : wv abcB 63 = 313650667 := by
  have h := wv_next abcB 63 (by omega)
  simp only [Nat.reduceSub, aw47, aw48, aw56, aw61] at h
  exact h.trans (by kernel_rfl)
theorem ar0 : rounds hAt (wv abcB) 0 = ⟨1779033703, 3144134277, 1013904242, 2773480762, 1359893119, 2600822924, 528734635, 1541459225⟩ := by kernel_rfl
theorem ar1 : rounds hAt (wv abcB) 1 = ⟨1567288269, 1779033703, 3144134277, 1013904242, 4197074466, 1359893119, 2600822924, 528734635⟩ := by
  show step (rounds hAt (wv abcB) 0) (kAt 0) (wv abcB 0) = _
  rw [ar0, aw0]
  kernel_rfl
theorem ar2 : rounds hAt (wv abcB) 2 = ⟨1516951981, 1567288269, 1779033703, 3144134277, 2026797449, 4197074466, 1359893119, 2600822924⟩ := by
  show step (rounds hAt (wv abcB) 1) (kAt 1) (wv abcB 1) = _
  rw [ar1, aw1]
  kernel_rfl
theorem ar3 : rounds hAt (wv abcB) 3 = ⟨3368241063, 1516951981, 1567288269, 1779033703, 4180228587, 2026797449, 4197074466, 1359893119⟩ := by
  show step (rounds hAt (wv abcB) 2) (kAt 2) (wv abcB 2) = _
  rw [ar2, aw2]
  kernel_rfl
theorem ar4 : rounds hAt (wv abcB) 4 = ⟨3578852966, 3368241063, 1516951981, 1567288269, 618661968, 4180228587, 2026797449, 4197074466⟩ := by
  show step (rounds hAt (wv abcB) 3) (kAt 3) (wv abcB 3) = _
  rw [ar3, aw3]
  kernel_rfl
theorem ar5 : rounds hAt (wv abcB) 5 = ⟨71342698, 3578852966, 3368241063, 1516951981, 1135452741, 618661968, 4180228587, 2026797449⟩ := by
  show step (rounds hAt (wv abcB) 4) (kAt 4) (wv abcB 4) = _
  rw [ar4, aw4]
  kernel_rfl
theorem ar6 : rounds hAt (wv abcB) 6 = ⟨725748213, 71342698, 3578852966, 3368241063, 1900175533, 1135452741, 618661968, 4180228587⟩ := by
  show step (rounds hAt (wv abcB) 5) (kAt 5) (wv abcB 5) = _
  rw [ar5, aw5]
  kernel_rfl
theorem ar7 : rounds hAt (wv abcB) 7 = ⟨3842179968, 725748213, 71342698, 3578852966, 2603066369, 1900175533, 1135452741, 618661968⟩ := by
  show step (rounds hAt (wv abcB) 6) (kAt 6) (wv abcB 6) = _
  rw [ar6, aw6]
  kernel_rfl
theorem ar8 : rounds hAt (wv abcB) 8 = ⟨2241887071, 3842179968, 725748213, 71342698, 207977081, 2603066369, 1900175533, 1135452741⟩ := by
  show step (rounds hAt (wv abcB) 7) (kAt 7) (wv abcB 7) = _
  rw [ar7, aw7]
  kernel_rfl
theorem ar9 : rounds hAt (wv abcB) 9 = ⟨2382687417, 2241887071, 3842179968, 725748213, 852110732, 207977081, 2603066369, 1900175533⟩ := by
  show step (rounds hAt (wv abcB) 8) (kAt 8) (wv abcB 8) = _
  rw [ar8, aw8]
  kernel_rfl
theorem ar10 : rounds hAt (wv abcB) 10 = ⟨2357671019, 2382687417, 2241887071, 3842179968, 482944406, 852110732, 207977081, 2603066369⟩ := by
  show step (rounds hAt (wv abcB) 9) (kAt 9) (wv abcB 9) = _
  rw [ar9, aw9]
  kernel_rfl
theorem ar11 : rounds hAt (wv abcB) 11 = ⟨1201185780, 2357671019, 2382687417, 2241887071, 1131095016, 482944406, 852110732, 207977081⟩ := by
  show step (rounds hAt (wv abcB) 10) (kAt 10) (wv abcB 10) = _
  rw [ar10, aw10]
  kernel_rfl
theorem ar12 : rounds hAt (wv abcB) 12 = ⟨4146054569, 1201185780, 2357671019, 2382687417, 2171590377, 1131095016, 482944406, 852110732⟩ := by
  show step (rounds hAt (wv abcB) 11) (kAt 11) (wv abcB 11) = _
  rw [ar11, aw11]
  kernel_rfl
theorem ar13 : rounds hAt (wv abcB) 13 = ⟨2274437520, 4146054569, 1201185780, 2357671019, 509051416, 2171590377, 1131095016, 482944406⟩ := by
  show step (rounds hAt (wv abcB) 12) (kAt 12) (wv abcB 12) = _
  rw [ar12, aw12]
  kernel_rfl
theorem ar14 : rounds hAt (wv abcB) 14 = ⟨3643992854, 2274437520, 4146054569, 1201185780, 1952073950, 509051416, 2171590377, 1131095016⟩ := by
  show step (rounds hAt (wv abcB) 13) (kAt 13) (wv abcB 13) = _
  rw [ar13, aw13]
  kernel_rfl
theorem ar15 : rounds hAt (wv abcB) 15 = ⟨3227803614, 3643992854, 2274437520, 4146054569, 194179596, 1952073950, 509051416, 2171590377⟩ := by
  show step (rounds hAt (wv abcB) 14) (kAt 14) (wv abcB 14) = _
  rw [ar14, aw14]
  kernel_rfl
theorem ar16 : rounds hAt (wv abcB) 16 = ⟨2969183118, 3227803614, 3643992854, 2274437520, 123276749, 194179596, 1952073950, 509051416⟩ := by
  show step (rounds hAt (wv abcB) 15) (kAt 15) (wv abcB 15) = _
  rw [ar15, aw15]
  kernel_rfl
theorem ar17 : rounds hAt (wv abcB) 17 = ⟨567974555, 2969183118, 3227803614, 3643992854, 2150900380, 123276749, 194179596, 1952073950⟩ := by
  show step (rounds hAt (wv abcB) 16) (kAt 16) (wv abcB 16) = _
  rw [ar16, aw16]
  kernel_rfl
theorem ar18 : rounds hAt (wv abcB) 18 = ⟨3271285201, 567974555, 2969183118, 3227803614, 2221859924, 2150900380, 123276749, 194179596⟩ := by
  show step (rounds hAt (wv abcB) 17) (kAt 17) (wv abcB 17) = _
  rw [ar17, aw17]
  kernel_rfl
theorem ar19 : rounds hAt (wv abcB) 19 = ⟨4269243327, 3271285201, 567974555, 2969183118, 3431569761, 2221859924, 2150900380, 123276749⟩ := by
  show step (rounds hAt (wv abcB) 18) (kAt 18) (wv abcB 18) = _
  rw [ar18, aw18]
  kernel_rfl
theorem ar20 : rounds hAt (wv abcB) 20 = ⟨3790736435, 4269243327, 3271285201, 567974555, 2959311225, 3431569761, 2221859924, 2150900380⟩ := by
  show step (rounds hAt (wv abcB) 19) (kAt 19) (wv abcB 19) = _
  rw [ar19, aw19]
  kernel_rfl
theorem ar21 : rounds hAt (wv abcB) 21 = ⟨2647034723, 3790736435, 4269243327, 3271285201, 2329577776, 2959311225, 3431569761, 2221859924⟩ := by
  show step (rounds hAt (wv abcB) 20) (kAt 20) (wv abcB 20) = _
  rw [ar20, aw20]
  kernel_rfl
theorem ar22 : rounds hAt (wv abcB) 22 = ⟨3261099373, 2647034723, 3790736435, 4269243327, 3777329520, 2329577776, 2959311225, 3431569761⟩ := by
  show step (rounds hAt (wv abcB) 21) (kAt 21) (wv abcB 21) = _
  rw [ar21, aw21]
  kernel_rfl
theorem ar23 : rounds hAt (wv abcB) 23 = ⟨2812502591, 3261099373, 2647034723, 3790736435, 1240797514, 3777329520, 2329577776, 2959311225⟩ := by
  show step (rounds hAt (wv abcB) 22) (kAt 22) (wv abcB 22) = _
  rw [ar22, aw22]
  kernel_rfl
theorem ar24 : rounds hAt (wv abcB) 24 = ⟨3319086477, 2812502591, 3261099373, 2647034723, 2856829767, 1240797514, 3777329520, 2329577776⟩ := by
  show step (rounds hAt (wv abcB) 23) (kAt 23) (wv abcB 23) = _
  rw [ar23, aw23]
  kernel_rfl
theorem ar25 : rounds hAt (wv abcB) 25 = ⟨472655928, 3319086477, 2812502591, 3261099373, 673443729, 2856829767, 1240797514, 3777329520⟩ := by
  show step (rounds hAt (wv abcB) 24) (kAt 24) (wv abcB 24) = _
  rw [ar24, aw24]
  kernel_rfl
theorem ar26 : rounds hAt (wv abcB) 26 = ⟨3454534525, 472655928, 3319086477, 2812502591, 339230094, 673443729, 2856829767, 1240797514⟩ := by
  show step (rounds hAt (wv abcB) 25) (kAt 25) (wv abcB 25) = _
  rw [ar25, aw25]
  kernel_rfl
theorem ar27 : rounds hAt (wv abcB) 27 = ⟨3056518332, 3454534525, 472655928, 3319086477, 3343672598, 339230094, 673443729, 2856829767⟩ := by
  show step (rounds hAt (wv abcB) 26) (kAt 26) (wv abcB 26) = _
  rw [ar26, aw26]
  kernel_rfl
theorem ar28 : rounds hAt (wv abcB) 28 = ⟨2010346792, 3056518332, 3454534525, 472655928, 3992961016, 3343672598, 339230094, 673443729⟩ := by
  show step (rounds hAt (wv abcB) 27) (kAt 27) (wv abcB 27) = _
  rw [ar27, aw27]
  kernel_rfl
theorem ar29 : rounds hAt (wv abcB) 29 = ⟨909411017, 2010346792, 3056518332, 3454534525, 1628611511, 3992961016, 3343672598, 339230094⟩ := by
  show step (rounds hAt (wv abcB) 28) (kAt 28) (wv abcB 28) = _
  rw [ar28, aw28]
  kernel_rfl
theorem ar30 : rounds hAt (wv abcB) 30 = ⟨2684750640, 909411017, 2010346792, 3056518332, 2917635127, 1628611511, 3992961016, 3343672598⟩ := by
  show step (rounds hAt (wv abcB) 29) (kAt 29) (wv abcB 29) = _
  rw [ar29, aw29]
  kernel_rfl
theorem ar31 : rounds hAt (wv abcB) 31 = ⟨3935906338, 2684750640, 909411017, 2010346792, 17410874, 2917635127, 1628611511, 3992961016⟩ := by
  show step (rounds hAt (wv abcB) 30) (kAt 30) (wv abcB 30) = _
  rw [ar30, aw30]
  kernel_rfl
theorem ar32 : rounds hAt (wv abcB) 32 = ⟨1941126133, 3935906338, 2684750640, 909411017, 3126399250, 17410874, 2917635127, 1628611511⟩ := by
  show step (rounds hAt (wv abcB) 31) (kAt 31) (wv abcB 31) = _
  rw [ar31, aw31]
  kernel_rfl
theorem ar33 : rounds hAt (wv abcB) 33 = ⟨2564891911, 1941126133, 3935906338, 2684750640, 2631529974, 3126399250, 17410874, 2917635127⟩ := by
  show step (rounds hAt (wv abcB) 32) (kAt 32) (wv abcB 32) = _
  rw [ar32, aw32]
  kernel_rfl
theorem ar34 : rounds hAt (wv abcB) 34 = ⟨4267724277, 2564891911, 1941126133, 3935906338, 1495571923, 2631529974, 3126399250, 17410874⟩ := by
  show step (rounds hAt (wv abcB) 33) (kAt 33) (wv abcB 33) = _
  rw [ar33, aw33]
  kernel_rfl
theorem ar35 : rounds hAt (wv abcB) 35 = ⟨2846323596, 4267724277, 2564891911, 1941126133, 140458035, 1495571923, 2631529974, 3126399250⟩ := by
  show step (rounds hAt (wv abcB) 34) (kAt 34) (wv abcB 34) = _
  rw [ar34, aw34]
  kernel_rfl
theorem ar36 : rounds hAt (wv abcB) 36 = ⟨1705037796, 2846323596, 4267724277, 2564891911, 4105175766, 140458035, 1495571923, 2631529974⟩ := by
  show step (rounds hAt (wv abcB) 35) (kAt 35) (wv abcB 35) = _
  rw [ar35, aw35]
  kernel_rfl
theorem ar37 : rounds hAt (wv abcB) 37 = ⟨1101421745, 1705037796, 2846323596, 4267724277, 124953195, 4105175766, 140458035, 1495571923⟩ := by
  show step (rounds hAt (wv abcB) 36) (kAt 36) (wv abcB 36) = _
  rw [ar36, aw36]
  kernel_rfl
theorem ar38 : rounds hAt (wv abcB) 38 = ⟨887035396, 1101421745, 1705037796, 2846323596, 2768741693, 124953195, 4105175766, 140458035⟩ := by
  show step (rounds hAt (wv abcB) 37) (kAt 37) (wv abcB 37) = _
  rw [ar37, aw37]
  kernel_rfl
theorem ar39 : rounds hAt (wv abcB) 39 = ⟨1841658506, 887035396, 1101421745, 1705037796, 4034403272, 2768741693, 124953195, 4105175766⟩ := by
  show step (rounds hAt (wv abcB) 38) (kAt 38) (wv abcB 38) = _
  rw [ar38, aw38]
  kernel_rfl
theorem ar40 : rounds hAt (wv abcB) 40 = ⟨2045405306, 1841658506, 887035396, 1101421745, 519815328, 4034403272, 2768741693, 124953195⟩ := by
  show step (rounds hAt (wv abcB) 39) (kAt 39) (wv abcB 39) = _
  rw [ar39, aw39]
  kernel_rfl
theorem ar41 : rounds hAt (wv abcB) 41 = ⟨3597076326, 2045405306, 1841658506, 887035396, 641019235, 519815328, 4034403272, 2768741693⟩ := by
  show step (rounds hAt (wv abcB) 40) (kAt 40) (wv abcB 40) = _
  rw [ar40, aw40]
  kernel_rfl
theorem ar42 : rounds hAt (wv abcB) 42 = ⟨3745932591, 3597076326, 2045405306, 1841658506, 2206934801, 641019235, 519815328, 4034403272⟩ := by
  show step (rounds hAt (wv abcB) 41) (kAt 41) (wv abcB 41) = _
  rw [ar41, aw41]
  kernel_rfl
theorem ar43 : rounds hAt (wv abcB) 43 = ⟨397020670, 3745932591, 3597076326, 2045405306, 3737995029, 2206934801, 641019235, 519815328⟩ := by
  show step (rounds hAt (wv abcB) 42) (kAt 42) (wv abcB 42) = _
  rw [ar42, aw42]
  kernel_rfl
theorem ar44 : rounds hAt (wv abcB) 44 = ⟨2638983059, 397020670, 3745932591, 3597076326, 4255271982, 3737995029, 2206934801, 641019235⟩ := by
  show step (rounds hAt (wv abcB) 43) (kAt 43) (wv abcB 43) = _
  rw [ar43, aw43]
  kernel_rfl
theorem ar45 : rounds hAt (wv abcB) 45 = ⟨643991573, 2638983059, 397020670, 3745932591, 2819559920, 4255271982, 3737995029, 2206934801⟩ := by
  show step (rounds hAt (wv abcB) 44) (kAt 44) (wv abcB 44) = _
  rw [ar44, aw44]
  kernel_rfl
theorem ar46 : rounds hAt (wv abcB) 46 = ⟨1923828625, 643991573, 2638983059, 397020670, 3077922209, 2819559920, 4255271982, 3737995029⟩ := by
  show step (rounds hAt (wv abcB) 45) (kAt 45) (wv abcB 45) = _
  rw [ar45, aw45]
  kernel_rfl
theorem ar47 : rounds hAt (wv abcB) 47 = ⟨2706117808, 1923828625, 643991573, 2638983059, 3581645993, 3077922209, 2819559920, 4255271982⟩ := by
  show step (rounds hAt (wv abcB) 46) (kAt 46) (wv abcB 46) = _
  rw [ar46, aw46]
  kernel_rfl
theorem ar48 : rounds hAt (wv abcB) 48 = ⟨1098003085, 2706117808, 1923828625, 643991573, 4274981830, 3581645993, 3077922209, 2819559920⟩ := by
  show step (rounds hAt (wv abcB) 47) (kAt 47) (wv abcB 47) = _
  rw [ar47, aw47]
  kernel_rfl
theorem ar49 : rounds hAt (wv abcB) 49 = ⟨91585771, 1098003085, 2706117808, 1923828625, 3178315832, 4274981830, 3581645993, 3077922209⟩ := by
  show step (rounds hAt (wv abcB) 48) (kAt 48) (wv abcB 48) = _
  rw [ar48, aw48]
  kernel_rfl
theorem ar50 : rounds hAt (wv abcB) 50 = ⟨4045142696, 91585771, 1098003085, 2706117808, 1851537676, 3178315832, 4274981830, 3581645993⟩ := by
  show step (rounds hAt (wv abcB) 49) (kAt 49) (wv abcB 49) = _
  rw [ar49, aw49]
  kernel_rfl
theorem ar51 : rounds hAt (wv abcB) 51 = ⟨2047150241, 4045142696, 91585771, 1098003085, 1391578359, 1851537676, 3178315832, 4274981830⟩ := by
  show step (rounds hAt (wv abcB) 50) (kAt 50) (wv abcB 50) = _
  rw [ar50, aw50]
  kernel_rfl
theorem ar52 : rounds hAt (wv abcB) 52 = ⟨2288941602, 2047150241, 4045142696, 91585771, 1227037726, 1391578359, 1851537676, 3178315832⟩ := by
  show step (rounds hAt (wv abcB) 51) (kAt 51) (wv abcB 51) = _
  rw [ar51, aw51]
  kernel_rfl
theorem ar53 : rounds hAt (wv abcB) 53 = ⟨270520975, 2288941602, 2047150241, 4045142696, 1386118400, 1227037726, 1391578359, 1851537676⟩ := by
  show step (rounds hAt (wv abcB) 52) (kAt 52) (wv abcB 52) = _
  rw [ar52, aw52]
  kernel_rfl
theorem ar54 : rounds hAt (wv abcB) 54 = ⟨4117770203, 270520975, 2288941602, 2047150241, 2672265155, 1386118400, 1227037726, 1391578359⟩ := by
  show step (rounds hAt (wv abcB) 53) (kAt 53) (wv abcB 53) = _
  rw [ar53, aw53]
  kernel_rfl
theorem ar55 : rounds hAt (wv abcB) 55 = ⟨1053056219, 4117770203, 270520975, 2288941602, 3842906959, 2672265155, 1386118400, 1227037726⟩ := by
  show step (rounds hAt (wv abcB) 54) (kAt 54) (wv abcB 54) = _
  rw [ar54, aw54]
  kernel_rfl
theorem ar56 : rounds hAt (wv abcB) 56 = ⟨952932627, 1053056219, 4117770203, 270520975, 1422599787, 3842906959, 2672265155, 1386118400⟩ := by
  show step (rounds hAt (wv abcB) 55) (kAt 55) (wv abcB 55) = _
  rw [ar55, aw55]
  kernel_rfl
theorem ar57 : rounds hAt (wv abcB) 57 = ⟨4241590395, 952932627, 1053056219, 4117770203, 2606665836, 1422599787, 3842906959, 2672265155⟩ := by
  show step (rounds hAt (wv abcB) 56) (kAt 56) (wv abcB 56) = _
  rw [ar56, aw56]
  kernel_rfl
theorem ar58 : rounds hAt (wv abcB) 58 = ⟨3227702383, 4241590395, 952932627, 1053056219, 2118385806, 2606665836, 1422599787, 3842906959⟩ := by
  show step (rounds hAt (wv abcB) 57) (kAt 57) (wv abcB 57) = _
  rw [ar57, aw57]
  kernel_rfl
theorem ar59 : rounds hAt (wv abcB) 59 = ⟨4290184306, 3227702383, 4241590395, 952932627, 1837350854, 2118385806, 2606665836, 1422599787⟩ := by
  show step (rounds hAt (wv abcB) 58) (kAt 58) (wv abcB 58) = _
  rw [ar58, aw58]
  kernel_rfl
theorem ar60 : rounds hAt (wv abcB) 60 = ⟨3064893439, 4290184306, 3227702383, 4241590395, 2988158269, 1837350854, 2118385806, 2606665836⟩ := by
  show step (rounds hAt (wv abcB) 59) (kAt 59) (wv abcB 59) = _
  rw [ar59, aw59]
  kernel_rfl
theorem ar61 : rounds hAt (wv abcB) 61 = ⟨3093179625, 3064893439, 4290184306, 3227702383, 2518632596, 2988158269, 1837350854, 2118385806⟩ := by
  show step (rounds hAt (wv abcB) 60) (kAt 60) (wv abcB 60) = _
  rw [ar60, aw60]
  kernel_rfl
theorem ar62 : rounds hAt (wv abcB) 62 = ⟨80891244, 3093179625, 3064893439, 4290184306, 2492278198, 2518632596, 2988158269, 1837350854⟩ := by
  show step (rounds hAt (wv abcB) 61) (kAt 61) (wv abcB 61) = _
  rw [ar61, aw61]
  kernel_rfl
theorem ar63 : rounds hAt (wv abcB) 63 = ⟨3550093669, 80891244, 3093179625, 3064893439, 4212265488, 2492278198, 2518632596, 2988158269⟩ := by
  show step (rounds hAt (wv abcB) 62) (kAt 62) (wv abcB 62) = _
  rw [ar62, aw62]
  kernel_rfl
theorem ar64 : rounds hAt (wv abcB) 64 = ⟨1349398616, 3550093669, 80891244, 3093179625, 1593118500, 4212265488, 2492278198, 2518632596⟩ := by
  show step (rounds hAt (wv abcB) 63) (kAt 63) (wv abcB 63) = _
  rw [ar63, aw63]
  kernel_rfl
theorem am0 : mixed hAt (wv abcB) 0 = 3128432319 := by
  unfold mixed
  rw [ar64]
  kernel_rfl
theorem am7 : mixed hAt (wv abcB) 7 = 4060091821 := by
  unfold mixed
  rw [ar64]
  kernel_rfl
theorem abc_st : shaSt (allBlocks abc) = mixed hAt (wv abcB) := by rw [abc_blocks]; rfl
theorem abc_0 : sha abc 0 = 186 := by
  show byteOf (shaSt (allBlocks abc) 0) 24 = _
  rw [abc_st, am0]
  kernel_rfl
theorem abc_1 : sha abc 1 = 120 := by
  show byteOf (shaSt (allBlocks abc) 0) 16 = _
  rw [abc_st, am0]
  kernel_rfl
theorem abc_2 : sha abc 2 = 22 := by
  show byteOf (shaSt (allBlocks abc) 0) 8 = _
  rw [abc_st, am0]
  kernel_rfl
theorem abc_3 : sha abc 3 = 191 := by
  show byteOf (shaSt (allBlocks abc) 0) 0 = _
  rw [abc_st, am0]
  kernel_rfl
theorem abc_31 : sha abc 31 = 173 := by
  show byteOf (shaSt (allBlocks abc) 7) 0 = _
  rw [abc_st, am7]
  kernel_rfl
end Go.Proofs.YtghjdelijmlemaaDoor
