/-
  short's text of two sums, its halves of a list, and the root of a list, all sums cut: of any cut, any list of not more than a million entries, in whatever memory in which the tables lie. No condition.
-/
import Derived.Test.YtlnapnbccojohaaDoorShSum
import Derived.Test.YtlnapnbccojohaaDoorRegT
import Derived.Test.YtlnapnbccojohaaDoorTreeRefR
import Derived.Deep.CutRange
import Derived.Deep.RegionHeld3
namespace Go.Proofs.YtlnapnbccojohaaDoor
open Go Go.RowKit Go.Shelf TreeM

theorem run_arr_all' {P : Program} (t e : TypeId) (N : Nat) (ht : P.underlying t = some (.array N e)) (hs : (P.info? e).map (·.size) = some 1) (g o : Nat) (w : World) :
    (Instr.sliceAt t (.pointer (some ⟨g, o, none⟩)) none none none).run P w = .ok (.slice (some ⟨g, o, none⟩) N N) w := by
  have h3 : (⟨g, o, none⟩ : Addr).add 0 = ⟨g, o, none⟩ := by simp [Addr.add]
  simp [Instr.sliceAt, Instr.sureAddr, run_underlying ht, Instr.sliceBounds, Sem.run_bind, size_one hs, h3]
theorem sh_build1 {o : Oper} {a : Act} {w : World} {K : Act → World → Prop} {Q : Exit → Act → World → Prop} (x : Operand) (ho : o.op = .buildSlice 50 1 #[(0, x)]) (b : UInt8) (hx : a.eval x = bv b)
    (h : K (a.put o.dst (.slice (some ⟨w.heap.size, 0, none⟩) 1 1)) (w.alloc (.cells #[bv b] 5))) : o.wp Tryd.prog a w K Q := by
  obtain ⟨i0, hi, hz0, hz1, hz2⟩ := info_parts info_u8
  refine wp_buildSlice 50 5 1 _ ho #[bv b] i0 _ Tryd.underlying50 hi hz0 (by rw [hz1]; decide) (by rw [hz1]; decide) ?_ h
  rw [hz1]
  simp only [List.map_toArray, List.map_cons, List.map_nil, hx]
  kernel_rfl
set_option maxRecDepth 100000 in
set_option maxHeartbeats 2000000 in
theorem sidesText_any (l r : D) (w : World) :
    Calls Tryd.prog 63 #[.agg (arr 32 fun i => bv (l i)), .agg (arr 32 fun i => bv (r i))] w fun e w' => ∃ g cap, e = .returned (.slice (some ⟨g, 0, none⟩) 65 cap) ∧ RdB w' (fun b => w.heap.size ≤ b ∧ b < w'.heap.size) (.slice (some ⟨g, 0, none⟩) 65 cap) (1 :: (id32 l ++ id32 r)) ∧ Below w.heap.size w w' := by
  have HP : Hid (∀ W, Below w.heap.size w W → Blk W w.heap.size 23 (arr 32 fun i => bv (l i)) → Blk W (w.heap.size + 1) 23 (arr 32 fun i => bv (r i)) → ∃ g1 c1 w1 g2 c2 w2, (Builtin.append_ #[50, 50] 50 #[.slice (some ⟨W.heap.size, 0, none⟩) 1 1, .slice (some ⟨w.heap.size, 0, none⟩) 32 32]).run Tryd.prog (W.alloc (.cells #[bv 1] 5)) = .ok (.slice (some ⟨g1, 0, none⟩) 33 c1) w1 ∧
      (Builtin.append_ #[50, 50] 50 #[.slice (some ⟨g1, 0, none⟩) 33 c1, .slice (some ⟨w.heap.size + 1, 0, none⟩) 32 32]).run Tryd.prog w1 = .ok (.slice (some ⟨g2, 0, none⟩) 65 c2) w2 ∧ RdB w2 (fun b => w.heap.size ≤ b ∧ b < w2.heap.size) (.slice (some ⟨g2, 0, none⟩) 65 c2) (1 :: (id32 l ++ id32 r)) ∧ Below w.heap.size w w2) := Lib.hid fun W b0 kl kr => by
    have hb1 : Below W.heap.size W (W.alloc (.cells #[bv 1] 5)) := (Below.refl _ _).alloc (Nat.le_refl _) _
    have ho := sh_own_one W W.heap.size (Nat.le_refl _) 1
    obtain ⟨g1, c1, w1, hrun1, ho1, hbb1, hs1⟩ := sh_app_step hb1 hb1.size ho (by omega) (rd_arr (kl.alloc _)) (by omega)
    obtain ⟨g2, c2, w2, hrun2, ho2, hbb2, hs2⟩ := sh_app_step hbb1 hs1 ho1 (by omega) (rd_arr (kr.below hbb1 kr.lt)) (by omega)
    have hrd := rdB_own ho2 (by simp [id32]) (by omega)
    exact ⟨g1, c1, w1, g2, c2, w2, hrun1, hrun2, by simpa using hrd.mono fun b hb => ⟨Nat.le_trans b0.size hb.1, hb.2⟩, b0.trans (hbb2.mono b0.size)⟩
  go_enter Tryd.func63, Tryd.ntmps63
  go_wp2_with fail
  generalize hW : World.alloc (World.alloc w _) _ = W
  have b0 : Below w.heap.size w W.drew := by rw [← hW]; exact (((Below.refl _ _).alloc (Nat.le_refl _) _).alloc (by simp) _).drew
  have kl : Blk W.drew w.heap.size 23 (arr 32 fun i => bv (l i)) := by rw [← hW]; exact ((Blk.new w _ _).alloc _).drew
  have kr : Blk W.drew (w.heap.size + 1) 23 (arr 32 fun i => bv (r i)) := by rw [← hW]; exact (Blk.newAt _ _ (by simp) rfl).drew
  obtain ⟨g1, c1, w1, g2, c2, w2, hrun1, hrun2, hrd, hbb⟩ := HP.out W.drew b0 kl kr
  have R1 := Lib.hid hrun1
  have R2 := Lib.hid hrun2
  have HE := Lib.hid (And.intro hrd hbb)
  have hsl := fun g W => run_arr_all' (P := Tryd.prog) 23 5 32 Tryd.underlying23 (by kernel_rfl) g 0 W
  clear hW b0 kl kr hrun1 hrun2 hrd hbb HP
  refine wp_region_held_drew (S := fun _ => True) (by kernel_rfl) ?_ (fun hHeld => ?_)
  · exact trivial
  refine wpAnyH_take (i := 1) (oi := ⟨some 6, _, _, _, _, _⟩) (v := ?_) rfl (by kernel_rfl) (by kernel_rfl) (by kernel_rfl) (fun _ _ _ h => h) (Or.inl ⟨by rfl, ?_⟩) (by assumption) ?_
  rotate_left
  · intro w hSw; (try dsimp only at hSw); go_simp; try (with_reducible rfl)
  rotate_left 0
  try simp only [Act.put, List.setIfInBounds_toArray, List.set_cons_zero, List.set_cons_succ]
  refine wpAnyH_take (i := 3) (oi := ⟨some 8, _, _, _, _, _⟩) (v := ?_) rfl (by kernel_rfl) (by kernel_rfl) (by kernel_rfl) (fun _ _ _ h => h) (Or.inl ⟨by rfl, ?_⟩) (by assumption) ?_
  rotate_left
  · intro w hSw; (try dsimp only at hSw); go_simp; try (with_reducible rfl)
  rotate_left 0
  try simp only [Act.put, List.setIfInBounds_toArray, List.set_cons_zero, List.set_cons_succ]
  refine wpAnyH_ready (rs := [0]) (by kernel_rfl) (by simp) ?_
  refine (AllReadyH.cons (o := ⟨some 5, _, _, _, _, _⟩) rfl (fun K hK => ?_) AllReadyH.nil)
  (try rw [if_pos (by rfl)])
  refine sh_build1 _ rfl 1 rfl ?_
  try simp only [Act.put, List.setIfInBounds_toArray, List.set_cons_zero, List.set_cons_succ]
  try dsimp only
  refine hK.out _ _ (trivial) (fun hHeld => ?_)
  clear hK K
  try simp only [Act.put, List.setIfInBounds_toArray, List.set_cons_zero, List.set_cons_succ]
  refine wpAnyH_ready (rs := [2]) (by kernel_rfl) (by simp) ?_
  refine (AllReadyH.cons (o := ⟨some 7, _, _, _, _, _⟩) rfl (fun K hK => ?_) AllReadyH.nil)
  (try rw [if_pos (by rfl)])
  refine oper_append (.tmp 5) (.tmp 6) _ _ rfl _ _ rfl rfl _ _ R1.out ?_
  try simp only [Act.put, List.setIfInBounds_toArray, List.set_cons_zero, List.set_cons_succ]
  try dsimp only
  refine hK.out _ _ (trivial) (fun hHeld => ?_)
  clear hK K
  try simp only [Act.put, List.setIfInBounds_toArray, List.set_cons_zero, List.set_cons_succ]
  refine wpAnyH_ready (rs := [4]) (by kernel_rfl) (by simp) ?_
  refine (AllReadyH.cons (o := ⟨some 9, _, _, _, _, _⟩) rfl (fun K hK => ?_) AllReadyH.nil)
  (try rw [if_pos (by rfl)])
  refine oper_append (.tmp 7) (.tmp 8) _ _ rfl _ _ rfl rfl _ _ R2.out ?_
  try simp only [Act.put, List.setIfInBounds_toArray, List.set_cons_zero, List.set_cons_succ]
  try dsimp only
  refine hK.out _ _ (trivial) (fun hHeld => ?_)
  clear hK K
  try simp only [Act.put, List.setIfInBounds_toArray, List.set_cons_zero, List.set_cons_succ]
  refine wpAnyH_take (i := 5) (oi := ⟨some 4, _, _, _, _, _⟩) (v := ?_) rfl (by kernel_rfl) (by kernel_rfl) (by kernel_rfl) (fun _ _ _ h => h) (Or.inl ⟨by rfl, ?_⟩) (by assumption) ?_
  rotate_left
  · intro w hSw; (try dsimp only at hSw); go_simp; try (with_reducible rfl)
  rotate_left 0
  try simp only [Act.put, List.setIfInBounds_toArray, List.set_cons_zero, List.set_cons_succ]
  refine wpAnyH_done (by kernel_rfl) ?_ _
  go_wp2_with fail
  go_ret
  exact ⟨g2, c2, rfl, HE.out.1, HE.out.2⟩
set_option maxRecDepth 100000 in
set_option maxHeartbeats 2000000 in
theorem halvesS_any (A : Option Addr) (n c : Nat) (h0 : 2 ≤ n) (hn : n ≤ 1000000) (hc : n ≤ c) (w : World) :
    Calls Tryd.prog 62 #[.slice A n c] w fun e w' => e = .returned (.tuple #[.slice A (half n) c, .slice (cutA A c (half n)) (n - half n) (c - half n)]) ∧ Below w.heap.size w w' := by
  have hl := bitLen_log2 (n - 1) (by omega) (by omega)
  have hle : Nat.log2 (n - 1) ≤ 40 := by
    have h1 := Nat.log2_self_le (n := n - 1) (by omega)
    have h2 : 2 ^ Nat.log2 (n - 1) < 2 ^ 41 := by omega
    have := (Nat.pow_lt_pow_iff_right (a := 2) (by omega)).1 h2
    omega
  have HL := Lib.hid (len_any (n - 1) w (by omega))
  have HT : Hid (half n = 2 ^ Nat.log2 (n - 1)) := Lib.hid rfl
  have hlt := half_lt (n := n) h0
  rw [hl, Int.natCast_sub (by omega)] at HL
  have hn0 : (n : Int) ≤ 1000000 := by omega
  have hn2 : (2 : Int) ≤ (n : Int) := by omega
  have sl1 := fun W => run_slice_to (P := Tryd.prog) 39 50 Tryd.underlying39 (by kernel_rfl) A n c (half n) (by omega) W
  have sl2 := fun W => run_slice_from (P := Tryd.prog) 39 50 Tryd.underlying39 (by kernel_rfl) A n c (half n) (by omega) W
  have HTK : Hid (Nat.log2 (n - 1) ≤ 40) := Lib.hid hle
  generalize Nat.log2 (n - 1) = k at *
  have hp : (2 ^ k : Nat) ≤ 2 ^ 40 := Nat.pow_le_pow_right (by omega) hle
  have he : wrap64 ((2 : Int) ^ k) = ((2 ^ k : Nat) : Int) := by
    rw [Int.natCast_pow]
    have e2 : (2 : Int) ^ k = ((2 ^ k : Nat) : Int) := by
      have e : ((2 : Nat) : Int) ^ k = ((2 ^ k : Nat) : Int) := by rw [Int.natCast_pow]
      exact e
    rw [e2]
    exact w64 (Int.natCast_nonneg _) (by omega)
  obtain ⟨K, hK⟩ : ∃ K, half n = K := ⟨_, rfl⟩
  rw [← HT.out, hK] at he
  rw [hK] at sl1 sl2 hlt ⊢
  have HE := Lib.hid he
  clear hl HT he hp hK
  go_enter Tryd.func62, Tryd.ntmps62
  go_upto_region 2 with (go_at_call 70; refine HL.out.mono ?_; rintro e w2 ⟨rfl, h2⟩; obtain rfl := h2.symm)
  rw [HE.out]
  go_region
  go_wp2
  go_ret2
  exact ⟨rfl, (Below.refl _ _).drew⟩
/-- The text whose sum is the root of entries, and the root, all sums cut. -/
def topC (c : Int) (ps : List (List UInt8)) : List UInt8 :=
  if _h : 2 ≤ ps.length then 1 :: (id32 (cutD c (sha (topC c (ps.take (half ps.length))))) ++ id32 (cutD c (sha (topC c (ps.drop (half ps.length))))))
  else match ps with
    | [] => []
    | p :: _ => 0 :: p
termination_by ps.length
decreasing_by
  · have := half_lt (n := ps.length) _h
    rw [List.length_take]; omega
  · have := half_pos ps.length
    rw [List.length_drop]; omega
def rootC (c : Int) (ps : List (List UInt8)) : D := cutD c (sha (topC c ps))
theorem topC_two {c : Int} {ps : List (List UInt8)} {n K : Nat} (hn : ps.length = n) (hK : half n = K) (h2 : 2 ≤ n) : topC c ps = 1 :: (id32 (rootC c (ps.take K)) ++ id32 (rootC c (ps.drop K))) := by
  subst hn hK
  conv => lhs; rw [topC]
  rw [dif_pos h2]
  rfl
theorem topC_none (c : Int) : topC c [] = [] := by rw [topC, dif_neg (by simp)]
theorem topC_one (c : Int) (p : List UInt8) : topC c [p] = 0 :: p := by rw [topC, dif_neg (by simp)]
theorem topC_length (c : Int) (ps : List (List UInt8)) (hp : ∀ p ∈ ps, p.length ≤ 1000000) : (topC c ps).length ≤ 1000001 := by
  by_cases h : 2 ≤ ps.length
  · rw [topC_two rfl rfl h]
    simp [id32]
  · match ps, h with
    | [], _ => rw [topC_none]; simp
    | [p], _ =>
      rw [topC_one]
      have := hp p (by simp)
      simp; omega
    | _ :: _ :: _, h => simp at h
theorem RdP.takeS {W : World} {ok : Nat → Prop} {A : Option Addr} {ps : List (List UInt8)} (h : RdP W ok A ps) (k : Nat) : RdP W ok A (ps.take k) := fun j hj => by
  rw [List.length_take] at hj
  obtain ⟨ad, v, e, h1, h2, h3⟩ := h j (by omega)
  refine ⟨ad, v, e, h1, h2, ?_⟩
  rw [List.getD_eq_getElem?_getD, List.getElem?_take, if_pos (by omega), ← List.getD_eq_getElem?_getD]
  exact h3
theorem RdP.dropS {W : World} {ok : Nat → Prop} {A : Option Addr} {ps : List (List UInt8)} {c : Nat} (h : RdP W ok A ps) (k : Nat) (hc : ps.length ≤ c) : RdP W ok (cutA A c k) (ps.drop k) := fun j hj => by
  rw [List.length_drop] at hj
  obtain ⟨ad, v, e, h1, h2, h3⟩ := h (k + j) (by omega)
  refine ⟨ad.add k, v, ?_, by rw [block_add]; exact h1, by rw [add_add]; exact h2, ?_⟩
  · unfold cutA
    rw [if_neg (by omega), e]
    rfl
  · rw [List.getD_eq_getElem?_getD, List.getElem?_drop, ← List.getD_eq_getElem?_getD]
    exact h3
theorem RdP.oldS {w W : World} {A : Option Addr} {ps : List (List UInt8)} (h : RdP w (fun b => b < w.heap.size) A ps) (hb : Below w.heap.size w W) : RdP W (fun b => b < W.heap.size) A ps := fun k hk => by
  obtain ⟨ad, v, e, h1, h2, h3⟩ := h k hk
  exact ⟨ad, v, e, Nat.lt_of_lt_of_le h1 hb.size, (hb.cell (p := ad.add k) (by rw [block_add]; exact h1)).trans h2, (h3.kept fun a x ha h => (hb.cell (p := a) ha).trans h).mono fun b hb' => Nat.lt_of_lt_of_le hb' hb.size⟩
set_option maxRecDepth 100000 in
set_option maxHeartbeats 2000000 in
theorem topText_step (c : Int) (n : Nat) (ih : ∀ m, m < n → ∀ (ps : List (List UInt8)) (A : Option Addr) (cp : Nat) (w : World), ps.length = m → m ≤ 1000000 → m ≤ cp → (∀ p ∈ ps, p.length ≤ 1000000) → Tables w → RdP w (fun b => b < w.heap.size) A ps →
      Calls Tryd.prog 20 #[.int .i64 c, .slice A m cp] w fun e w' => e = .returned (.agg (arr 32 fun i => bv (rootC c ps i))) ∧ Below w.heap.size w w')
    (ps : List (List UInt8)) (A : Option Addr) (cp : Nat) (w : World) (hn : ps.length = n) (hm : n ≤ 1000000) (hc : n ≤ cp) (hl : ∀ p ∈ ps, p.length ≤ 1000000) (hT : Tables w) (hr : RdP w (fun b => b < w.heap.size) A ps) :
    Calls Tryd.prog 45 #[.int .i64 c, .slice A n cp] w fun e w' => ∃ v, e = .returned v ∧ RdB w' (fun b => b < w'.heap.size) v (topC c ps) ∧ Below w.heap.size w w' := by
  by_cases h2 : 2 ≤ n
  · have hkl := half_lt (n := n) h2
    have hkp := half_pos n
    have HHA := Lib.hid (halvesS_any A n cp h2 hm hc w)
    have htop := topC_two (c := c) hn rfl h2
    obtain ⟨K, hK⟩ : ∃ K, half n = K := ⟨_, rfl⟩
    rw [hK] at hkl hkp HHA htop
    have hlt : (ps.take K).length = K := by rw [List.length_take]; omega
    have hld : (ps.drop K).length = n - K := by rw [List.length_drop]; omega
    have H1 : Hid (∀ W, Below w.heap.size w W → Calls Tryd.prog 20 #[.int .i64 c, .slice A K cp] W fun e w' => e = .returned (.agg (arr 32 fun i => bv (rootC c (ps.take K) i))) ∧ Below W.heap.size W w') := Lib.hid fun W hb => ih K hkl (ps.take K) A cp W hlt (by omega) (by omega) (fun p hp => hl p (List.mem_of_mem_take hp)) (hT.below hb) ((hr.takeS K).oldS hb)
    have H2 : Hid (∀ W, Below w.heap.size w W → Calls Tryd.prog 20 #[.int .i64 c, .slice (cutA A cp K) (n - K) (cp - K)] W fun e w' => e = .returned (.agg (arr 32 fun i => bv (rootC c (ps.drop K) i))) ∧ Below W.heap.size W w') := Lib.hid fun W hb => ih (n - K) (by omega) (ps.drop K) _ _ W hld (by omega) (by omega) (fun p hp => hl p (List.mem_of_mem_drop hp)) (hT.below hb) ((hr.dropS K (by omega)).oldS hb)
    rw [htop]
    obtain ⟨x, hx⟩ : ∃ x, rootC c (ps.take K) = x := ⟨_, rfl⟩
    obtain ⟨y, hy⟩ : ∃ y, rootC c (ps.drop K) = y := ⟨_, rfl⟩
    rw [hx] at H1 ⊢
    rw [hy] at H2 ⊢
    have HS := Lib.hid fun W => sidesText_any x y W
    have e0 : ((n : Int) == 0) = false := beq_eq_false_iff_ne.2 (by omega)
    have e1 : ((n : Int) == 1) = false := beq_eq_false_iff_ne.2 (by omega)
    obtain ⟨q, hq⟩ : ∃ q, n - K = q := ⟨_, rfl⟩
    obtain ⟨d, hd⟩ : ∃ d, cp - K = d := ⟨_, rfl⟩
    obtain ⟨A2, hA2⟩ : ∃ A2, cutA A cp K = A2 := ⟨_, rfl⟩
    rw [hq, hd, hA2] at H2 HHA
    clear ih hn hm hc hl hT hr h2 hkl hkp htop hK hlt hld hx hy hq hd hA2
    go_enter Tryd.func45, Tryd.ntmps45
    go_wp2_with (first
      | (go_at_call 62; refine HHA.out.mono ?_; rintro e W1 ⟨rfl, hb1⟩; have HB1 := Lib.hid hb1; clear hb1 HHA)
      | (go_at_call 20; refine (H1.out _ HB1.out).mono ?_; rintro e W2 ⟨rfl, hb2⟩; have HB2 := Lib.hid (HB1.out.trans (hb2.mono HB1.out.size)); clear hb2 H1)
      | (go_at_call 20; refine (H2.out _ HB2.out).mono ?_; rintro e W3 ⟨rfl, hb3⟩; have HB3 := Lib.hid (HB2.out.trans (hb3.mono HB2.out.size)); clear hb3 H2)
      | (go_at_call 63; refine (HS.out _).mono ?_; rintro e W4 ⟨g, cap, rfl, hrd, hb4⟩; have HR4 := Lib.hid hrd; have HB4 := Lib.hid (HB3.out.trans (hb4.mono HB3.out.size)); clear hb4 hrd HS))
    go_ret
    exact ⟨_, rfl, HR4.out.mono fun b hb => hb.2, HB4.out⟩
  · by_cases h0 : n = 0
    · subst h0
      obtain rfl : ps = [] := List.eq_nil_of_length_eq_zero hn
      rw [topC_none]
      clear ih hn hm hc hl hT hr h2
      go_enter Tryd.func45, Tryd.ntmps45
      go_wp2
      go_ret
      exact ⟨_, rfl, ⟨none, 0, rfl, Nat.le_refl _, by simp, fun h => by simp at h⟩, Below.refl _ _⟩
    · obtain rfl : n = 1 := by omega
      obtain ⟨p, rfl⟩ : ∃ p, ps = [p] := by
        match ps, hn with
        | [p], _ => exact ⟨p, rfl⟩
      rw [topC_one]
      obtain ⟨ad, v, rfl, _, hcell, hrb⟩ := hr 0 (by simp)
      have hpl := hl p (by simp)
      rw [show ([p] : List (List UInt8)).getD 0 [] = p from rfl] at hrb
      obtain ⟨A', c', rfl, _, _⟩ := id hrb
      have HEN := Lib.hid (entryText_any A' p.length c' p rfl (by omega) w hrb)
      have had : ad.add 0 = ad := by simp [Addr.add]
      rw [had] at hcell
      obtain ⟨m, hm'⟩ : ∃ m, p.length = m := ⟨_, rfl⟩
      rw [hm'] at HEN hcell
      clear ih hn hm hc hl hT hr h2 h0 hrb had hm' hpl
      go_enter Tryd.func45, Tryd.ntmps45
      go_wp2_with (go_at_call 61; refine HEN.out.mono ?_; rintro e W4 ⟨g, cap, rfl, hrd, hb4⟩; have HR4 := Lib.hid hrd; have HB4 := Lib.hid hb4; clear hb4 hrd HEN)
      go_ret
      exact ⟨_, rfl, HR4.out.mono fun b hb => hb.2, HB4.out⟩
set_option maxRecDepth 100000 in
set_option maxHeartbeats 2000000 in
theorem root_any (c : Int) : ∀ (n : Nat) (ps : List (List UInt8)) (A : Option Addr) (cp : Nat) (w : World), ps.length = n → n ≤ 1000000 → n ≤ cp → (∀ p ∈ ps, p.length ≤ 1000000) → Tables w → RdP w (fun b => b < w.heap.size) A ps →
    Calls Tryd.prog 20 #[.int .i64 c, .slice A n cp] w fun e w' => e = .returned (.agg (arr 32 fun i => bv (rootC c ps i))) ∧ Below w.heap.size w w' := by
  intro n
  induction n using Nat.strongRecOn with
  | _ n ih =>
    intro ps A cp w hn hm hc hl hT hr
    have hb0 : Below w.heap.size w (w.alloc (.cells (Array.replicate 32 (bv 0)) 23)) := (Below.refl _ _).alloc (Nat.le_refl _) _
    have HTT : Hid (∀ W, Below w.heap.size w W → Calls Tryd.prog 45 #[.int .i64 c, .slice A n cp] W fun e w' => ∃ v, e = .returned v ∧ RdB w' (fun b => b < w'.heap.size) v (topC c ps) ∧ Below W.heap.size W w') := Lib.hid fun W hb => topText_step c n ih ps A cp W hn hm hc hl (hT.below hb) (hr.oldS hb)
    have htl := topC_length c ps hl
    have HSU : Hid (∀ v W, Below w.heap.size w W → RdB W (fun b => b < W.heap.size) v (topC c ps) → Calls Tryd.prog 25 #[.int .i64 c, v] W fun e w' => e = .returned (.agg (arr 32 fun i => bv (rootC c ps i))) ∧ Below W.heap.size W w') := Lib.hid fun v W hb h => csum_any c v (topC c ps) (by omega) W (hT.below hb) h
    obtain ⟨R, hR⟩ : ∃ R, rootC c ps = R := ⟨_, rfl⟩
    rw [hR] at HSU ⊢
    have hZ32 : Hid (Array.replicate 32 (bv 0) = arr 32 fun _ => bv 0) := Lib.hid (by rw [← upto_none 32 (fun _ => bv 0) (bv 0)]; exact arr_congr fun i _ => by simp)
    clear ih hn hm hc hl hT hr hb0 htl hR
    go_enter Tryd.func20, Tryd.ntmps20
    go_wp2_with fail
    generalize hW : World.alloc w _ = W
    have hb0 : Below w.heap.size w W := by rw [← hW]; exact (Below.refl _ _).alloc (Nat.le_refl _) _
    have k4 : Blk W w.heap.size 23 (arr 32 fun _ => bv 0) := by rw [← hW]; exact Blk.newAt _ _ rfl hZ32.out
    have HB0 := Lib.hid hb0
    have K4 := Lib.hid k4
    clear hW hb0 k4
    go_wp2_with (first
      | (go_at_call 45; refine (HTT.out _ HB0.out).mono ?_; rintro e W1 ⟨v, rfl, hrd, hb1⟩; have HR1 := Lib.hid hrd; have HB1 := Lib.hid (HB0.out.trans (hb1.mono HB0.out.size)); have J4 := Lib.hid (K4.out.below hb1 K4.out.lt); clear hb1 hrd HTT)
      | (go_at_call 25; refine (HSU.out _ _ HB1.out HR1.out).mono ?_; rintro e W2 ⟨rfl, hb2⟩; have HB2 := Lib.hid (HB1.out.trans (hb2.mono HB1.out.size)); have M4 := Lib.hid (J4.out.below hb2 J4.out.lt); clear hb2 HSU)
      | (refine wpList_store_arrW rfl 23 _ _ rfl w.heap.size (arr 32 fun i => bv (R i)) rfl rfl 23 _ M4.out (by rw [arr_size]; kernel_rfl) (by simp only [arr_size]) (arr_all_bv _ _) ?_; intro W3 hS3 hz3 hb3 hk3))
    refine bodyPost_ret (results_cell_row (p := 4) (ty := 23) rfl _ _ w.heap.size 23 _ (0, 0) _ rfl hS3 Tryd.underlying23 rfl (by rw [arr_size]; kernel_rfl)) rfl ⟨rfl, HB2.out.trans hb3⟩
end Go.Proofs.YtlnapnbccojohaaDoor
