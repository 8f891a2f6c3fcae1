/-
  Layer 10: the reference's own, Record. In whatever memory. No condition.
-/
import Derived.Test.YtgpbpdjamimbfaaDoorJrnRef
import Derived.Test.YtgpbpdjamimbfaaDoorJrnFirst
namespace Go.Proofs.YtgpbpdjamimbfaaDoor
open Go Go.RowKit Go.Shelf

def ownB (a : Nat → UInt8) (q : List UInt8) : List UInt8 := (id32 (sha (forBytes frontP [id32 a, q]))).take 16
theorem ownB_length (a : Nat → UInt8) (q : List UInt8) : (ownB a q).length = 16 := by unfold ownB; rw [List.length_take, id32_length]; rfl
theorem slice16 (f : Nat → UInt8) (W : World) : (Instr.sliceAt 9 (.string ⟨(id32 f).toArray⟩) none (some (.int .i64 16)) none).run Tryd.prog W = .ok (.string ⟨((id32 f).take 16).toArray⟩) W := to_str (id32 f) 16 (by rw [id32_length]; omega) W
set_option maxRecDepth 100000 in
set_option maxHeartbeats 1000000 in
/-- The short sum of a length. -/
theorem refOwn_any (a : Nat → UInt8) (q : List UInt8) (hL : q.length ≤ 1048576) (w : World) : Calls Tryd.prog 35 #[.agg (arr 32 fun i => bv (a i)), .string ⟨q.toArray⟩] w fun e w' => e = .returned (.string ⟨(ownB a q).toArray⟩) ∧ Below w.heap.size w w' := by
  have HF : Hid (∀ (g : Nat) (W : World), Blk W g 9 #[.string ⟨(id32 a).toArray⟩, .string ⟨q.toArray⟩] → Calls Tryd.prog 47 #[.string ⟨frontP.toArray⟩, .slice (some ⟨g, 0, none⟩) 2 2] W fun e w' => e = .returned (shaV (forBytes frontP [id32 a, q])) ∧ Below W.heap.size W w') := Lib.hid fun g W h => refFor_any frontP (some ⟨g, 0, none⟩) 2 [id32 a, q] (by simp) (by rw [forBytes_two, id32_length]; unfold frontP; simp; omega) W (rdS_two h)
  obtain ⟨f, hf⟩ : ∃ f, sha (forBytes frontP [id32 a, q]) = f := ⟨_, rfl⟩
  have hown : ownB a q = (id32 f).take 16 := by unfold ownB; rw [hf]
  unfold shaV at HF
  rw [hf] at HF
  rw [hown]
  have HT := Lib.hid (fun W => text_any a W)
  have HT2 := Lib.hid (fun W => text_any f W)
  have hsl := slice16 f
  obtain ⟨fl, hfl⟩ : ∃ fl, id32 f = fl := ⟨_, rfl⟩
  rw [hfl] at HT2 hsl ⊢
  obtain ⟨ia, hia⟩ : ∃ ia, id32 a = ia := ⟨_, rfl⟩
  rw [hia] at HF HT
  obtain ⟨fa, hfa⟩ : ∃ fa, (arr 32 fun i => bv (f i)) = fa := ⟨_, rfl⟩
  rw [hfa] at HF HT2
  obtain ⟨al, hal⟩ : ∃ al, (arr 32 fun i => bv (a i)) = al := ⟨_, rfl⟩
  have hsz : al.size = 32 := by rw [← hal, arr_size]
  rw [hal] at HT ⊢
  have HAL := Lib.hid hsz
  clear hal hsz hia hL hown hf hfl hfa
  go_enter Tryd.func35, Tryd.ntmps35
  go_upto_region 1 with fail
  generalize hW : World.alloc w _ = W
  have c0 : Blk W w.heap.size 37 al := by rw [← hW]; exact Blk.newAt _ _ rfl rfl
  have b0 : Below w.heap.size w W := by rw [← hW]; exact (Below.refl _ _).alloc (Nat.le_refl _) _
  have HB := Lib.hid b0
  clear hW b0
  go_wp2_with (first
    | (guard_target = wpList _ _ _ (Oper.mk _ (.load 37 _) _ _ _ _ :: _) _ _; refine wpList_load_row rfl 37 _ rfl w.heap.size rfl 37 al (0, 0) _ c0 Tryd.underlying37 rfl (by rw [HAL.out]; kernel_rfl) ?_)
    | (go_at_call 48; guard_target = Calls _ _ #[Value.agg al] _ _; refine (HT.out W).mono ?_; rintro e W1 ⟨rfl, hb1⟩; have HB1 := Lib.hid hb1; clear hb1)
    | (go_at_call 47; refine (HF.out W1.heap.size _ (Blk.newAt _ _ rfl rfl)).mono ?_; rintro e W2 ⟨rfl, hb2⟩; have hb12 : Below W.heap.size W W2 := (HB1.out.alloc HB1.out.size _).trans (hb2.mono (by have := HB1.out.size; simp; omega)); have HB2 := Lib.hid (HB.out.trans (hb12.mono HB.out.size)); clear hb2 hb12)
    | (go_at_call 48; guard_target = Calls _ _ #[Value.agg fa] _ _; refine (HT2.out W2).mono ?_; rintro e W3 ⟨rfl, hb3⟩; have HB3 := Lib.hid (HB2.out.trans (hb3.mono HB2.out.size)); clear hb3))
  go_ret
  exact ⟨rfl, HB3.out⟩
theorem rec_eq (a : Nat → UInt8) (d : List UInt8) : len3 d.length ++ (ownB a (len3 d.length) ++ ((id32 (withD a d)).take 16 ++ d)) = recB a d := by
  unfold recB frontB ownB
  simp only [List.append_assoc]
set_option maxRecDepth 100000 in
set_option maxHeartbeats 2000000 in
/-- A record as it lies there. -/
theorem refRecord_any (a : Nat → UInt8) (d : List UInt8) (hL : d.length ≤ 4194304) (w : World) : Calls Tryd.prog 36 #[.agg (arr 32 fun i => bv (a i)), .string ⟨d.toArray⟩] w fun e w' => e = .returned (.string ⟨(recB a d).toArray⟩) ∧ Below w.heap.size w w' := by
  rw [← rec_eq]
  obtain ⟨n, hn⟩ : ∃ n, d.length = n := ⟨_, rfl⟩
  have HC := Lib.hid (refCount_any n (by omega))
  have hol := ownB_length a (len3 n)
  have HO := Lib.hid (refOwn_any a (len3 n) (by show 3 ≤ 1048576; omega))
  have HLK := Lib.hid (refLink_any a d hL)
  have HTX := Lib.hid (fun W => text_any (withD a d) W)
  have hsl := slice16 (withD a d)
  have hll : ((id32 (withD a d)).take 16).length = 16 := by rw [List.length_take, id32_length]; rfl
  have hl3 : (len3 n).length = 3 := rfl
  rw [hn]
  obtain ⟨wl, hwl⟩ : ∃ wl, id32 (withD a d) = wl := ⟨_, rfl⟩
  obtain ⟨wa, hwa⟩ : ∃ wa, (arr 32 fun i => bv (withD a d i)) = wa := ⟨_, rfl⟩
  rw [hwl] at HTX hsl hll ⊢
  rw [hwa] at HTX HLK
  obtain ⟨o, ho⟩ : ∃ o, ownB a (len3 n) = o := ⟨_, rfl⟩
  rw [ho] at HO hol ⊢
  obtain ⟨q, hq⟩ : ∃ q, len3 n = q := ⟨_, rfl⟩
  rw [hq] at HC HO hl3 ⊢
  obtain ⟨l16, hl16⟩ : ∃ l16, wl.take 16 = l16 := ⟨_, rfl⟩
  rw [hl16] at hsl hll ⊢
  have hsz : (⟨d.toArray⟩ : ByteArray).size = n := by rw [ba_len, hn]
  have a1 := fun W => add_str q o (by omega) W
  have a2 := fun W => add_str (q ++ o) l16 (by rw [List.length_append]; omega) W
  have a3 : ∀ W, (Op.stringOp .add ⟨(q ++ (o ++ l16)).toArray⟩ ⟨d.toArray⟩).run Tryd.prog W = .ok (.string ⟨(q ++ (o ++ (l16 ++ d))).toArray⟩) W := fun W => by
    have h := add_str (q ++ (o ++ l16)) d (by rw [List.length_append, List.length_append]; omega) W
    simpa only [List.append_assoc] using h
  obtain ⟨al, hal⟩ : ∃ al, (arr 32 fun i => bv (a i)) = al := ⟨_, rfl⟩
  have hsza : al.size = 32 := by rw [← hal, arr_size]
  rw [hal] at HO HLK ⊢
  have HAL := Lib.hid hsza
  clear hn hol hll hl3 hwl hwa ho hq hl16 hal hsza hL
  go_enter Tryd.func36, Tryd.ntmps36
  go_upto_region 1 with fail
  generalize hW : World.alloc w _ = W
  have c0 : Blk W w.heap.size 37 al := by rw [← hW]; exact Blk.newAt _ _ rfl rfl
  have b0 : Below w.heap.size w W := by rw [← hW]; exact (Below.refl _ _).alloc (Nat.le_refl _) _
  have HB := Lib.hid b0
  have HC0 := Lib.hid c0
  clear hW b0 c0
  go_upto_region 2 with (go_at_call 56; refine (HC.out W).mono ?_; rintro e W1 ⟨rfl, hb1⟩)
  have HB1 := Lib.hid (HB.out.trans (hb1.mono HB.out.size))
  have HC1 := Lib.hid (HC0.out.below hb1 HC0.out.lt)
  have hbX : Below W1.heap.size W1 W1.drew := (Below.refl _ _).drew
  clear hb1
  refine wp_region_held_drew (S := fun W' => Below W1.heap.size W1 W') (by kernel_rfl) ?_ (fun hHeld => ?_)
  · exact hbX
  refine wpAnyH_take (i := 0) (oi := ⟨some 9, _, _, _, _, _⟩) (v := ?_) rfl (by kernel_rfl) (by kernel_rfl) (by kernel_rfl) (fun _ _ _ h => h) (Or.inl ⟨by rfl, ?_⟩) (by assumption) ?_
  rotate_left
  · intro w hSw; (try dsimp only at hSw); go_simp; try (with_reducible rfl)
  rotate_left 0
  try simp only [Act.put, List.setIfInBounds_toArray, List.set_cons_zero, List.set_cons_succ]
  refine wpAnyH_take (i := 1) (oi := ⟨some 10, _, _, _, _, _⟩) (v := (.agg al)) rfl (by kernel_rfl) (by kernel_rfl) (by kernel_rfl) (fun _ _ _ h => h) (yieldsIf_load_blk (by rfl) 37 _ rfl w.heap.size rfl 37 _ _ (fun W' hS => HC1.out.below hS HC1.out.lt) Tryd.underlying37 rfl (by rw [HAL.out]; kernel_rfl)) (by assumption) ?_
  try simp only [Act.put, List.setIfInBounds_toArray, List.set_cons_zero, List.set_cons_succ]
  refine wpAnyH_take (i := 2) (oi := ⟨some 11, _, _, _, _, _⟩) (v := ?_) rfl (by kernel_rfl) (by kernel_rfl) (by kernel_rfl) (fun _ _ _ h => h) (Or.inl ⟨by rfl, ?_⟩) (by assumption) ?_
  rotate_left
  · intro w hSw; (try dsimp only at hSw); go_simp; try (with_reducible rfl)
  rotate_left 0
  try simp only [Act.put, List.setIfInBounds_toArray, List.set_cons_zero, List.set_cons_succ]
  refine wpAnyH_take (i := 5) (oi := ⟨some 14, _, _, _, _, _⟩) (v := (.agg al)) rfl (by kernel_rfl) (by kernel_rfl) (by kernel_rfl) (fun _ _ _ h => h) (yieldsIf_load_blk (by rfl) 37 _ rfl w.heap.size rfl 37 _ _ (fun W' hS => HC1.out.below hS HC1.out.lt) Tryd.underlying37 rfl (by rw [HAL.out]; kernel_rfl)) (by assumption) ?_
  try simp only [Act.put, List.setIfInBounds_toArray, List.set_cons_zero, List.set_cons_succ]
  refine wpAnyH_take (i := 6) (oi := ⟨some 15, _, _, _, _, _⟩) (v := ?_) rfl (by kernel_rfl) (by kernel_rfl) (by kernel_rfl) (fun _ _ _ h => h) (Or.inl ⟨by rfl, ?_⟩) (by assumption) ?_
  rotate_left
  · intro w hSw; (try dsimp only at hSw); go_simp; try (with_reducible rfl)
  rotate_left 0
  try simp only [Act.put, List.setIfInBounds_toArray, List.set_cons_zero, List.set_cons_succ]
  refine wpAnyH_take (i := 11) (oi := ⟨some 20, _, _, _, _, _⟩) (v := ?_) rfl (by kernel_rfl) (by kernel_rfl) (by kernel_rfl) (fun _ _ _ h => h) (Or.inl ⟨by rfl, ?_⟩) (by assumption) ?_
  rotate_left
  · intro w hSw; (try dsimp only at hSw); go_simp; try (with_reducible rfl)
  rotate_left 0
  try simp only [Act.put, List.setIfInBounds_toArray, List.set_cons_zero, List.set_cons_succ]
  refine wpAnyH_ready (rs := [3]) (by kernel_rfl) (by simp) ?_
  refine (AllReadyH.cons (o := ⟨some 12, _, _, _, _, _⟩) rfl (fun K hK => ?_) AllReadyH.nil)
  (try rw [if_pos (by rfl)])
  go_simp
  refine (HO.out _).mono ?_
  rintro e WX ⟨rfl, hbc⟩
  replace hbX := hbX.trans (hbc.mono hbX.size)
  clear hbc
  try dsimp only
  refine hK.out _ _ (hbX) (fun hHeld => ?_)
  clear hK K
  try simp only [Act.put, List.setIfInBounds_toArray, List.set_cons_zero, List.set_cons_succ]
  refine wpAnyH_take (i := 4) (oi := ⟨some 13, _, _, _, _, _⟩) (v := ?_) rfl (by kernel_rfl) (by kernel_rfl) (by kernel_rfl) (fun _ _ _ h => h) (Or.inl ⟨by rfl, ?_⟩) (by assumption) ?_
  rotate_left
  · intro w hSw; (try dsimp only at hSw); go_simp; try (with_reducible rfl)
  rotate_left 0
  try simp only [Act.put, List.setIfInBounds_toArray, List.set_cons_zero, List.set_cons_succ]
  refine wpAnyH_ready (rs := [7]) (by kernel_rfl) (by simp) ?_
  refine (AllReadyH.cons (o := ⟨some 16, _, _, _, _, _⟩) rfl (fun K hK => ?_) AllReadyH.nil)
  (try rw [if_pos (by rfl)])
  go_simp
  refine (HLK.out _).mono ?_
  rintro e WX ⟨rfl, hbc⟩
  replace hbX := hbX.trans (hbc.mono hbX.size)
  clear hbc
  try dsimp only
  refine hK.out _ _ (hbX) (fun hHeld => ?_)
  clear hK K
  try simp only [Act.put, List.setIfInBounds_toArray, List.set_cons_zero, List.set_cons_succ]
  refine wpAnyH_ready (rs := [8]) (by kernel_rfl) (by simp) ?_
  refine (AllReadyH.cons (o := ⟨some 17, _, _, _, _, _⟩) rfl (fun K hK => ?_) AllReadyH.nil)
  (try rw [if_pos (by rfl)])
  go_simp
  refine (HTX.out _).mono ?_
  rintro e WX ⟨rfl, hbc⟩
  replace hbX := hbX.trans (hbc.mono hbX.size)
  clear hbc
  try dsimp only
  refine hK.out _ _ (hbX) (fun hHeld => ?_)
  clear hK K
  try simp only [Act.put, List.setIfInBounds_toArray, List.set_cons_zero, List.set_cons_succ]
  refine wpAnyH_take (i := 9) (oi := ⟨some 18, _, _, _, _, _⟩) (v := ?_) rfl (by kernel_rfl) (by kernel_rfl) (by kernel_rfl) (fun _ _ _ h => h) (Or.inl ⟨by rfl, ?_⟩) (by assumption) ?_
  rotate_left
  · intro w hSw; (try dsimp only at hSw); go_simp; try (with_reducible rfl)
  rotate_left 0
  try simp only [Act.put, List.setIfInBounds_toArray, List.set_cons_zero, List.set_cons_succ]
  refine wpAnyH_take (i := 10) (oi := ⟨some 19, _, _, _, _, _⟩) (v := ?_) rfl (by kernel_rfl) (by kernel_rfl) (by kernel_rfl) (fun _ _ _ h => h) (Or.inl ⟨by rfl, ?_⟩) (by assumption) ?_
  rotate_left
  · intro w hSw; (try dsimp only at hSw); go_simp; try (with_reducible rfl)
  rotate_left 0
  try simp only [Act.put, List.setIfInBounds_toArray, List.set_cons_zero, List.set_cons_succ]
  refine wpAnyH_take (i := 12) (oi := ⟨some 21, _, _, _, _, _⟩) (v := ?_) rfl (by kernel_rfl) (by kernel_rfl) (by kernel_rfl) (fun _ _ _ h => h) (Or.inl ⟨by rfl, ?_⟩) (by assumption) ?_
  rotate_left
  · intro w hSw; (try dsimp only at hSw); go_simp; try (with_reducible rfl)
  rotate_left 0
  try simp only [Act.put, List.setIfInBounds_toArray, List.set_cons_zero, List.set_cons_succ]
  refine wpAnyH_take (i := 13) (oi := ⟨some 4, _, _, _, _, _⟩) (v := ?_) rfl (by kernel_rfl) (by kernel_rfl) (by kernel_rfl) (fun _ _ _ h => h) (Or.inl ⟨by rfl, ?_⟩) (by assumption) ?_
  rotate_left
  · intro w hSw; (try dsimp only at hSw); go_simp; try (with_reducible rfl)
  rotate_left 0
  try simp only [Act.put, List.setIfInBounds_toArray, List.set_cons_zero, List.set_cons_succ]
  refine wpAnyH_done (by kernel_rfl) ?_ _
  have HX := Lib.hid (HB1.out.trans (hbX.mono HB1.out.size))
  clear hbX
  go_wp2
  go_ret
  exact ⟨rfl, HX.out⟩
end Go.Proofs.YtgpbpdjamimbfaaDoor
