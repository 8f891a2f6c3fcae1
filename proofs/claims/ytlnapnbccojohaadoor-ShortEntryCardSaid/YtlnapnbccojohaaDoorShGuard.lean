/-
  Layer 7's guard: 'cuts' answers true, in whatever memory in which the tables lie. No condition.
-/
import Derived.Test.YtlnapnbccojohaaDoorShCut
import Derived.Lib.SlBytesConst
import Derived.Lib.SmallJoins
namespace Go.Proofs.YtlnapnbccojohaaDoor
open Go Go.RowKit Go.Shelf TreeM

theorem rd_mark {W : World} {g n : Nat} {cs : Array Value} {bs : List UInt8} (hg : g < W.heap.size) (hc : ∀ j, W.cell? ⟨g, j, none⟩ = cs[j]?) (hcs : ∀ j, j < n → cs[j]? = some (bv (bs.getD j 0))) (hn : bs.length = n) (hm : n ≤ 1000) : RdB W (fun b => b < W.heap.size) (.slice (some ⟨g, 0, none⟩) n n) bs := by
  refine ⟨some ⟨g, 0, none⟩, n, by rw [hn], by rw [hn]; exact Nat.le_refl _, by omega, fun _ => ⟨⟨g, 0, none⟩, rfl, hg, fun j hj => ?_⟩⟩
  rw [add_zero_block, hc]
  exact hcs j (by omega)
theorem rd_one {W : World} {g : Nat} {b : UInt8} (hg : g < W.heap.size) (hc : ∀ j, W.cell? ⟨g, j, none⟩ = (#[bv b] : Array Value)[j]?) : RdB W (fun b => b < W.heap.size) (.slice (some ⟨g, 0, none⟩) 1 1) [b] :=
  rd_mark (cs := #[bv b]) hg hc (fun j hj => by
    obtain rfl : j = 0 := by omega
    rfl) rfl (by omega)
def zeroD : D := fun _ => 0
def twoD : D := fun i => if i = 0 then 186 else if i = 1 then 120 else 0
set_option maxRecDepth 100000 in
set_option maxHeartbeats 4000000 in
theorem cuts_any (w : World) (hT : Tables w) : Calls Tryd.prog 18 #[] w fun e w' => e = .returned (.bool true) ∧ Below w.heap.size w w' := by
  have HT := Lib.hid hT
  have kc1 := fun (C : Array Value) (n c : Nat) => Go.Lib.run_convert_bytes_const (P := Tryd.prog) w 50 5 C n c Tryd.underlying50 Tryd.underlying5
  clear hT
  go_enter Tryd.func18, Tryd.ntmps18
  go_wp2_with fail
  generalize hW : World.alloc w _ = W
  have hb0 : Below w.heap.size w W := by rw [← hW]; exact (Below.refl _ _).alloc (Nat.le_refl _) _
  have r0 : RdB W (fun b => b < W.heap.size) (.slice (some ⟨w.heap.size, 0, none⟩) 3 3) [97, 98, 99] := by
    refine rd_mark (cs := #[bv 97, bv 98, bv 99]) (by rw [← hW]; simp) (fun j => by rw [← hW]; exact World.cell?_alloc_mark w _ _ _ j) (fun j hj => ?_) rfl (by omega)
    have : j = 0 ∨ j = 1 ∨ j = 2 := by omega
    rcases this with rfl | rfl | rfl <;> rfl
  clear hW
  refine (csum_any 2 _ [97, 98, 99] (by simp) W (HT.out.below hb0) r0).mono ?_
  rintro e W1 ⟨rfl, hb1⟩
  have he0 := fun W => eql_id (cutD 2 (sha [97, 98, 99])) twoD W
  rw [show (id32 (cutD 2 (sha [97, 98, 99])) == id32 twoD) = true from abc_cut] at he0
  obtain ⟨S, hS⟩ : ∃ S, cutD 2 (sha [97, 98, 99]) = S := ⟨_, rfl⟩
  rw [hS] at he0 ⊢
  have HB1 := Lib.hid (hb0.trans (hb1.mono hb0.size))
  clear hS hb0 hb1 r0 kc1
  have kc2 := fun (C : Array Value) (n c : Nat) => Go.Joins.run_convert_bytes_const_at (P := Tryd.prog) (W1.alloc (.cells (arr 32 fun i => bv (S i)) 23)) 50 5 C n c (W1.heap.size + 1) (by simp) Tryd.underlying50 Tryd.underlying5
  have kc3 := fun (C : Array Value) (n c : Nat) => Go.Joins.run_convert_bytes_const_at (P := Tryd.prog) ((W1.alloc (.cells (arr 32 fun i => bv (S i)) 23)).alloc (Obj.cells #[Value.int IntKind.u8 97] 5 (1, 2))) 50 5 C n c (W1.heap.size + 1 + 1) (by simp) Tryd.underlying50 Tryd.underlying5
  dsimp only
  have HE0 := Lib.hid he0
  clear he0
  go_wp2_with (refine wpList_store_row rfl 23 _ _ rfl W1.heap.size (arr 32 fun i => bv (S i)) rfl rfl 23 _ (heap_alloc_new W1 _) (by rw [arr_size]; kernel_rfl) (by rw [arr_size]; rfl) (arr_all_bv _ _) ?_; rw [World.setRow_alloc_new])
  clear kc2 kc3
  generalize hW : World.alloc (World.alloc (World.alloc (World.alloc W1 _) _) _) _ = W
  have hb0 : Below W1.heap.size W1 W := by rw [← hW]; exact ((((Below.refl _ W1).alloc (Nat.le_refl _) _).alloc (by simp) _).alloc (by simp; omega) _).alloc (by simp; omega) _
  have k1 : Blk W W1.heap.size 23 (arr 32 fun i => bv (S i)) := by rw [← hW]; exact (((Blk.new W1 _ _).alloc _).alloc _).alloc _
  have hz : W.heap.size = W1.heap.size + 4 := by rw [← hW]; simp
  have q1 : ∀ j, W.cell? ⟨W1.heap.size + 1, j, none⟩ = (#[bv 97] : Array Value)[j]? := fun j => by
    rw [← hW, World.cell?_alloc_lt _ _ _ (by simp), World.cell?_alloc_lt _ _ _ (by simp)]
    exact Go.Joins.cell_alloc_mark_at _ _ _ _ _ j (by simp)
  have q2 : ∀ j, W.cell? ⟨W1.heap.size + 1 + 1, j, none⟩ = (#[bv 98] : Array Value)[j]? := fun j => by
    rw [← hW, World.cell?_alloc_lt _ _ _ (by simp)]
    exact Go.Joins.cell_alloc_mark_at _ _ _ _ _ j (by simp)
  have q3 : Blk W (W1.heap.size + 1 + 1 + 1) 50 #[.slice (some ⟨W1.heap.size + 1, 0, none⟩) 1 1, .slice (some ⟨W1.heap.size + 1 + 1, 0, none⟩) 1 1] := by rw [← hW]; exact Blk.newAt _ _ (by simp) rfl
  have rp : RdP W (fun b => b < W.heap.size) (some ⟨W1.heap.size + 1 + 1 + 1, 0, none⟩) [[97], [98]] := fun k hk => by
    have : k = 0 ∨ k = 1 := by simp at hk; omega
    rcases this with rfl | rfl
    · exact ⟨_, _, rfl, q3.lt, by rw [add_zero_block, q3.cell]; rfl, rd_one (by omega) q1⟩
    · exact ⟨_, _, rfl, q3.lt, by rw [add_zero_block, q3.cell]; rfl, rd_one (by omega) q2⟩
  obtain ⟨g, hg⟩ : ∃ g, W1.heap.size + 1 + 1 + 1 = g := ⟨_, rfl⟩
  rw [hg] at rp ⊢
  have HB2 := Lib.hid (HB1.out.trans (hb0.mono HB1.out.size))
  have HRP := Lib.hid rp
  have HK1 := Lib.hid k1
  have HLI := Lib.hid (lists_same 32 (some ⟨g, 0, none⟩) (some ⟨g, 0, none⟩) 2 2 2 [[97], [98]] W rfl (by omega) rp rp)
  clear hW hb0 k1 hz q1 q2 q3 rp hg
  refine HLI.out.mono ?_
  rintro e W3 ⟨rfl, hb3⟩
  have HB3 := Lib.hid (HB2.out.trans (hb3.mono HB2.out.size))
  have HK3 := Lib.hid (HK1.out.below hb3 HK1.out.lt)
  have HRP3 := Lib.hid (HRP.out.oldS hb3)
  clear hb3 HLI HRP HK1
  dsimp only
  have hl2 : ∀ p ∈ ([[97], [98]] : List (List UInt8)), p.length ≤ 1000000 := by simp
  have HRC : Hid (∀ W, Below W3.heap.size W3 W → Calls Tryd.prog 20 #[.int .i64 32, .slice (some ⟨g, 0, none⟩) 2 2] W fun e w' => e = .returned (.agg (arr 32 fun i => bv (rootC 32 [[97], [98]] i))) ∧ Below W.heap.size W w') := Lib.hid fun W hb => root_any 32 2 [[97], [98]] _ 2 W rfl (by omega) (by omega) hl2 (HT.out.below (HB3.out.trans (hb.mono HB3.out.size))) (HRP3.out.oldS hb)
  have HEN : Hid (∀ W, Below W3.heap.size W3 W → Calls Tryd.prog 23 #[.slice (some ⟨g, 0, none⟩) 2 2] W fun e w' => ∃ g', e = .returned (.slice (some ⟨g', 0, none⟩) 2 2) ∧ RdI w' (fun b => b < w'.heap.size) (.slice (some ⟨g', 0, none⟩) 2 2) ([[97], [98]].map leafD) ∧ Below W.heap.size W w') := Lib.hid fun W hb => (entries_any (some ⟨g, 0, none⟩) 2 2 [[97], [98]] rfl (by omega) W (HT.out.below (HB3.out.trans (hb.mono HB3.out.size))) (HRP3.out.oldS hb)).mono (by
    rintro e w' ⟨g', he, _, hr, hb', hlt⟩
    exact ⟨g', he, hr.mono fun b h => by rw [h]; exact hlt, hb'⟩)
  have HTR : Hid (∀ v W, Below W3.heap.size W3 W → RdI W (fun b => b < W.heap.size) v ([[97], [98]].map leafD) → Calls Tryd.prog 22 #[v] W fun e w' => e = .returned (.agg (arr 32 fun i => bv (mth ([[97], [98]].map leafD) i))) ∧ Below W.heap.size W w') := Lib.hid fun v W hb h => troot_any v _ W (HT.out.below (HB3.out.trans (hb.mono HB3.out.size))) h (by simp)
  have he1 := fun W => eql_id (rootC 32 [[97], [98]]) (mth ([[97], [98]].map leafD)) W
  have he2 := fun W => neq_id (rootC 32 [[97], [98]]) zeroD W
  rw [show (id32 (rootC 32 [[97], [98]]) == id32 (mth ([[97], [98]].map leafD))) = true from by rw [rootC_whole 32 (by decide) 2 _ rfl]; simp] at he1
  rw [show (id32 (rootC 32 [[97], [98]]) == id32 zeroD) = false from rootC_ab] at he2
  simp only [Bool.not_false] at he2
  generalize rootC 32 [[97], [98]] = R at *
  generalize ([[97], [98]] : List (List UInt8)).map leafD = ls at *
  generalize mth ls = M at *
  have he0 := HE0.out
  have HE1 := Lib.hid (And.intro he0 (And.intro he1 he2))
  clear he0 he1 he2 HE0 hl2
  have hX : Below W3.heap.size W3 (W3.alloc (.cells #[.slice none 0 0, .slice none 0 0] 62)) := (Below.refl _ _).alloc (Nat.le_refl _) _
  have HX := Lib.hid hX
  have HK4 := Lib.hid (HK3.out.alloc (.cells #[.slice none 0 0, .slice none 0 0] 62))
  clear hX
  have he0 := HE1.out.1
  have he1 := HE1.out.2.1
  have he2 := HE1.out.2.2
  go_wp2_with (first
    | (refine wpList_store_row rfl 62 _ _ rfl W3.heap.size #[.slice none 0 0, .slice none 0 0] rfl rfl 62 _ (heap_alloc_new W3 _) (by kernel_rfl) rfl (by kernel_rfl) ?_; rw [World.setRow_alloc_new])
    | (refine wpList_load_arr rfl 23 _ rfl W1.heap.size rfl 23 (arr 32 fun i => bv (S i)) _ HK4.out Tryd.underlying23 rfl (by rw [arr_size]; kernel_rfl) ?_)
    | (guard_target = wpList _ _ _ (Oper.mk (some 39) (.build _ _) _ _ _ _ :: _) _ _; refine wpList_buildTo (by rfl) 23 _ rfl (arr 32 fun i => bv (zeroD i)) (by kernel_rfl) ?_)
    | (guard_target = wpList _ _ _ (Oper.mk (some 20) (.build _ _) _ _ _ _ :: _) _ _; refine wpList_buildTo (by rfl) 23 _ rfl (arr 32 fun i => bv (twoD i)) (by kernel_rfl) ?_)
    | (go_at_call 20; refine (HRC.out _ HX.out).mono ?_; rintro e W4 ⟨rfl, hb4⟩; have HX4 := Lib.hid (HX.out.trans (hb4.mono HX.out.size)); clear hb4)
    | (go_at_call 23; refine (HEN.out _ HX4.out).mono ?_; rintro e W5 ⟨g', rfl, hr5, hb5⟩; have HR5 := Lib.hid hr5; have HX5 := Lib.hid (HX4.out.trans (hb5.mono HX4.out.size)); clear hb5 hr5 HEN)
    | (go_at_call 22; refine (HTR.out _ _ HX5.out HR5.out).mono ?_; rintro e W6 ⟨rfl, hb6⟩; have HX6 := Lib.hid (HX5.out.trans (hb6.mono HX5.out.size)); clear hb6 HTR)
    | (go_at_call 20; refine (HRC.out _ HX6.out).mono ?_; rintro e W7 ⟨rfl, hb7⟩; have HX7 := Lib.hid (HX6.out.trans (hb7.mono HX6.out.size)); clear hb7 HRC))
  go_ret
  exact ⟨rfl, HB3.out.trans (HX7.out.mono HB3.out.size)⟩
end Go.Proofs.YtlnapnbccojohaaDoor
