/-
  sum.Leaf of any entry; tree.Entries of any entries. No condition but the tables.
-/
import Derived.Test.YtphknicdllcbmaaDoorIdRow
import Derived.Test.YtphknicdllcbmaaDoorTreeGo
namespace Go.Proofs.YtphknicdllcbmaaDoor
open Go Go.RowKit Go.Shelf TreeM

def leafD (b : List UInt8) : D := sha (0 :: b)
set_option maxRecDepth 100000 in
set_option maxHeartbeats 1000000 in
theorem leaf_wide (A : Option Addr) (n c : Nat) (L : List UInt8) (hn : L.length = n) (hL : n ≤ 140737488351232) (w : World) (hT : Tables w) (hr : RdB w (fun b => b < w.heap.size) (.slice A n c) L) :
    Calls Tryd.prog 39 #[.slice A n c] w fun e w' => e = .returned (.agg (arr 32 fun i => bv (leafD L i))) ∧ Below w.heap.size w w' := by
  have HT := Lib.hid hT
  have HR := Lib.hid hr
  clear hT hr
  have hZ32 : Hid (Array.replicate 32 (bv 0) = arr 32 fun _ => bv 0) := Lib.hid (by rw [← upto_none 32 (fun _ => bv 0) (bv 0)]; exact arr_congr fun i _ => by simp)
  go_enter Tryd.func39, Tryd.ntmps39
  go_wp2_with fail
  generalize hW : (World.alloc (World.alloc (World.alloc w _) _) _) = W
  have r0 : Blk W w.heap.size 30 (arr 32 fun _ => bv 0) := by rw [← hW]; exact ((Blk.newAt _ _ rfl hZ32.out).alloc _).alloc _
  have c0 : Blk W (w.heap.size + 1) 5 (arr 1 fun _ => bv 0) := by rw [← hW]; exact (Blk.newAt _ _ (by simp) (by rw [arr_list]; rfl)).alloc _
  have c1 : Blk W (w.heap.size + 2) 47 #[.slice (some ⟨w.heap.size + 1, 0, none⟩) 1 1, .slice A n c] := by rw [← hW]; exact Blk.newAt _ _ (by simp) rfl
  have b0 : Below w.heap.size w W := by rw [← hW]; exact (((Below.refl _ _).alloc (Nat.le_refl _) _).alloc (by simp) _).alloc (by simp; omega) _
  have s0 := b0.size
  clear hW
  have hrp : RdP W (fun b => b < W.heap.size) (some ⟨w.heap.size + 2, 0, none⟩) [[0], L] := fun k hk => by
    have : k = 0 ∨ k = 1 := by simp at hk; omega
    rcases this with rfl | rfl
    · exact ⟨_, _, rfl, c1.lt, by rw [add_zero_block, c1.cell]; rfl, rdB_blk c0 (fun i hi => by
        obtain rfl : i = 0 := (by simp at hi; omega)
        rfl) rfl (by simp) (by simp) (by simp) c0.lt⟩
    · exact ⟨_, _, rfl, c1.lt, by rw [add_zero_block, c1.cell]; rfl, (HR.out.kept fun a x ha h => (b0.cell (p := a) ha).trans h).mono fun b hb => Nat.lt_of_lt_of_le hb s0⟩
  have HOF := Lib.hid (callsIn_wide.1 (of_any (some ⟨w.heap.size + 2, 0, none⟩) 2 [[0], L] (by simp) (by simp; omega) W (HT.out.below b0) hrp))
  have HR0 := Lib.hid r0
  have HB := Lib.hid b0
  clear r0 c0 c1 b0 hrp
  refine HOF.out.mono ?_
  rintro e w3 ⟨rfl, hb3⟩
  have hR3 := HR0.out.below hb3 HR0.out.lt
  dsimp only
  go_wp2_with (refine wpList_store_row rfl 30 _ _ rfl w.heap.size (arr 32 fun i => bv (sha ([[0], L] : List (List UInt8)).flatten i)) rfl rfl 30 _ hR3 (by rw [arr_size]; kernel_rfl) (by rw [arr_size, arr_size]) (arr_all_bv _ _) ?_)
  refine bodyPost_ret (v := shaV ([[0], L] : List (List UInt8)).flatten) (results_cell_row (p := 2) (ty := 30) rfl _ _ w.heap.size 30 _ (0, 0) _ rfl (hR3.setRow _) Tryd.underlying30 rfl (by rw [arr_size]; kernel_rfl)) rfl ⟨by simp; rfl, below_setRow (HB.out.trans (hb3.mono s0)) (Nat.le_refl _) _⟩

set_option maxRecDepth 100000 in
set_option maxHeartbeats 1000000 in
theorem entries_any (A : Option Addr) (n c : Nat) (ps : List (List UInt8)) (hn : ps.length = n) (hm : n ≤ 1000000) (w : World) (hT : Tables w) (hr : RdP w (fun b => b < w.heap.size) A ps) :
    Calls Tryd.prog 23 #[.slice A n c] w fun e w' => ∃ g, e = .returned (.slice (some ⟨g, 0, none⟩) n n) ∧ w.heap.size ≤ g ∧ RdI w' (fun b => b = g) (.slice (some ⟨g, 0, none⟩) n n) (ps.map leafD) ∧ Below w.heap.size w w' ∧ g < w'.heap.size := by
  have hmk := fun w' => run_mk_ids n (by omega) w'
  have HR := Lib.hid hr
  have HT := Lib.hid hT
  have HN := Lib.hid hn
  have H0 := Lib.hid (idRow_new w n)
  have HB0 := Lib.hid ((Below.refl w.heap.size w).alloc (Nat.le_refl _) (.cells (arr (32 * n) fun _ => bv 0) 30))
  clear hr hT hn
  go_enter Tryd.func23, Tryd.ntmps23
  go_wp2
  clear hmk
  go_loopw [11] (fun i wr => ∃ k : Nat, k ≤ n ∧ i = .int .i64 (k : Int) ∧ IdRow wr w.heap.size n ((ps.map leafD).take k) ∧ Below w.heap.size w wr) (fun i _ => n - (intOf i).toNat)
  case atStart => exact ⟨0, Nat.zero_le _, rfl, H0.out, HB0.out⟩
  case round =>
    obtain ⟨k, hk, rfl, hO, hb⟩ := hrel
    by_cases hlt : k < n
    · have hkn : (k : Int) < (n : Int) := by omega
      have hk0 : (0 : Int) ≤ (k : Int) := by omega
      have hk6 : (k : Int) ≤ 1000000 := by omega
      obtain ⟨ad, v, rfl, hok, hcell, hv⟩ := HR.out k (by rw [HN.out]; exact hlt)
      have hcell2 := (hb.cell (p := ad.add k) (by rw [block_add]; exact hok)).trans hcell
      obtain ⟨A1, c1, hv1, h1, h2, h3⟩ := id hv
      subst hv1
      have hv2 : RdB wr (fun b => b < wr.heap.size) (.slice A1 (ps.getD k []).length c1) (ps.getD k []) := (hv.kept fun a x ha h => (hb.cell (p := a) ha).trans h).mono fun b hb' => Nat.lt_of_lt_of_le hb' hb.size
      obtain ⟨b, hbb⟩ : ∃ b, ps.getD k [] = b := ⟨_, rfl⟩
      have hsn : (ps.map leafD).take (k + 1) = (ps.map leafD).take k ++ [leafD b] := by
        rw [List.take_add_one, List.getElem?_map]
        rw [List.getD_eq_getElem?_getD] at hbb
        rw [List.getElem?_eq_getElem (by rw [HN.out]; exact hlt)] at hbb ⊢
        simp at hbb
        simp [hbb]
      rw [hbb] at hcell2 hv2 h2
      have HL := Lib.hid (leaf_wide A1 b.length c1 b rfl h2 wr (HT.out.below hb) hv2)
      have hlen : ((ps.map leafD).take k).length = k := by rw [List.length_take, List.length_map, HN.out]; omega
      obtain ⟨f, hf⟩ : ∃ f, leafD b = f := ⟨_, rfl⟩
      rw [hf] at hsn HL
      have HSN := Lib.hid hsn
      have HLEN := Lib.hid hlen
      have HO := Lib.hid hO
      have HB := Lib.hid hb
      obtain ⟨m, hm⟩ : ∃ m, b.length = m := ⟨_, rfl⟩
      rw [hm] at hcell2 HL
      clear hcell hv hv2 h1 h2 h3 hsn hlen hO hb hf hbb hm
      go_wp2_with (first
        | (go_at_call 39; refine HL.out.mono ?_; rintro e W1 ⟨rfl, hb1⟩; have HO1 := Lib.hid (HO.out.below hb1); have HB1 := Lib.hid (HB.out.trans (hb1.mono HB.out.size)); clear hb1)
        | (refine wpList_store_id rfl 30 _ _ rfl w.heap.size n k _ _ f rfl (by first | rfl | omega) rfl HO1.out HLEN.out hlt (by kernel_rfl) ?_; intro W2 hO2 hz2 hb2 _; rw [← HSN.out] at hO2; have HO2 := Lib.hid hO2; have HB2 := Lib.hid (HB1.out.trans hb2); clear hO2 hz2 hb2))
      go_roundw
      case rel => exact ⟨k + 1, by omega, by go_num, HO2.out, HB2.out⟩
      case measure => simp [intOf]; omega
    · obtain rfl : k = n := by omega
      rw [List.take_of_length_le (by rw [List.length_map, HN.out]; omega)] at hO
      have HO := Lib.hid hO
      have HB := Lib.hid hb
      clear hO hb
      go_wp2
      go_ret
      exact ⟨_, rfl, Nat.le_refl _, idRow_rd HO.out (by rw [List.length_map, HN.out]) (by omega), HB.out, Blk.lt HO.out⟩
end Go.Proofs.YtphknicdllcbmaaDoor
