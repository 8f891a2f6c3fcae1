/-
  tree's Root: for every range, in whatever memory: the sum of its leaves, by halves. slices.Backward over IDs. No condition.
-/
import Derived.Test.YtkkanaefngggoaaDoorTreeOf
namespace Go.Proofs.YtkkanaefngggoaaDoor
open Go Go.RowKit Go.Shelf TreeM
attribute [local go_sem] Oper.semAt_some

/-- The numbers below m from the last down to k. -/
def bk (m k : Nat) : List Nat := ((List.range m).drop k).reverse
theorem bk_full (m : Nat) : bk m m = [] := by simp [bk]
theorem bk_zero (m : Nat) : bk m 0 = (List.range m).reverse := by simp [bk]
theorem bk_step {m k : Nat} (h : k < m) : bk m k = bk m (k + 1) ++ [k] := by
  unfold bk
  rw [List.drop_eq_getElem_cons (by simpa using h), List.reverse_cons]
  simp
theorem bk_prefix (m k : Nat) : bk m k <+: bk m 0 := by
  refine ⟨((List.range m).take k).reverse, ?_⟩
  unfold bk
  rw [List.drop_zero, ← List.reverse_append, List.take_append_drop]
def encK (l : List D) (k : Nat) : Array Value := #[.int .i64 (k : Int), .agg (arr 32 fun i => bv (l.getD k dz i))]
set_option maxRecDepth 100000 in
set_option maxHeartbeats 1000000 in
theorem backward_any (A : Option Addr) (n c : Nat) (w : World) : CallsIn Fence.wide 0 Tryd.prog 45 #[.slice A n c] w fun e w' => e = .returned (.func (.func 62) #[] #[.pointer (some ⟨w.heap.size, 0, none⟩)]) ∧ w' = w.alloc (.cells #[.slice A n c] 22) := by
  refine callsIn_of_wp Tryd.func45 rfl trivial ?_ rfl
  simp only [Tryd.ntmps45, List.size_toArray, List.length_cons, List.length_nil, Nat.reduceAdd, Nat.reduceSub, Array.replicate_succ, Array.replicate_zero, List.push_toArray, List.append_toArray, List.nil_append, List.cons_append]
  gi_wp2
  go_ret
  exact ⟨rfl, rfl⟩
set_option maxRecDepth 100000 in
set_option maxHeartbeats 1000000 in
theorem back_iter (j B : Nat) (own : Nat → Prop) (_hown : ∀ b, own b → b < B) (J Jx : List Nat → World → Prop) (_hJ : AbB B J) (_hJx : AbB B Jx) (Bp : Nat) (A : Option Addr) (m c : Nat) (l : List D) (hm : m ≤ 4398046511104)
    (W : World) (_hB : B = W.heap.size) (hbox : W.cell? ⟨Bp, 0, none⟩ = some (.slice A m c)) (hbo : ¬ own Bp) (hr : RdI W (fun b => b < B ∧ ¬ own b) (.slice A m c) l)
    (hY : ∀ q x W1, (q ++ [x]) <+: bk m 0 → J q W1 → YieldAt Fence.wide 0 Tryd.prog j (encK l x) W1 fun e W' => (e = .returned (.bool true) ∧ J (q ++ [x]) W' ∧ Keep own W1 W') ∨ (e = .returned (.bool false) ∧ Jx (q ++ [x]) W'))
    (h0 : J [] W) :
    CallsIn Fence.wide 0 Tryd.prog 62 #[.func (.yield j) #[] #[], .pointer (some ⟨Bp, 0, none⟩)] W fun e W' => (∃ v, e = .returned v) ∧ (J (bk m 0) W' ∨ ∃ q, q <+: bk m 0 ∧ q ≠ [] ∧ Jx q W') := by
  have HY := Lib.hid hY
  have H0 := Lib.hid h0
  have HR := Lib.hid hr
  have HBo := Lib.hid hbo
  clear _hJ _hJx hY _hown h0 hr
  refine callsIn_of_wp Tryd.func62 rfl trivial ?_ rfl
  simp only [Tryd.ntmps62, List.size_toArray, List.length_cons, List.length_nil, Nat.reduceAdd, Nat.reduceSub, Array.replicate_succ, Array.replicate_zero, List.push_toArray, List.append_toArray, List.nil_append, List.cons_append]
  gi_wp2
  gi_loopw [3] (fun i wr => ∃ k : Nat, k ≤ m ∧ i = .int .i64 ((k : Int) - 1) ∧ J (bk m k) wr ∧ wr.cell? ⟨Bp, 0, none⟩ = some (.slice A m c) ∧ RdI wr (fun b => b < B ∧ ¬ own b) (.slice A m c) l) (fun i _ => (intOf i + 1).toNat)
  case atStart => exact ⟨m, Nat.le_refl _, rfl, by rw [bk_full]; exact H0.out, hbox, HR.out⟩
  case round =>
    clear hbox
    obtain ⟨k, hk, rfl, hJ, hbox, hR⟩ := hrel
    obtain ⟨q, rfl⟩ | rfl : (∃ q, k = q + 1) ∨ k = 0 := by
      cases k with
      | zero => exact .inr rfl
      | succ q => exact .inl ⟨q, rfl⟩
    · obtain ⟨ad, rfl, hok, hcell⟩ := hR.at_ (k := q) (by omega)
      have hst := bk_step (m := m) (k := q) (by omega)
      have HNE := Lib.hid hst
      have hR1 := HY.out (bk m (q + 1)) q wr (by rw [← hst]; exact bk_prefix _ _) hJ
      unfold encK at hR1
      rw [← hst] at hR1
      obtain ⟨f, hf⟩ : ∃ f, l.getD q dz = f := ⟨_, rfl⟩
      rw [hf] at hcell hR1
      have e1 : (((q + 1 : Nat) : Int) - 1) = (q : Int) := by omega
      rw [e1]
      have hge : (q : Int) ≥ 0 := by omega
      have hge2 : (0 : Int) ≤ (q : Int) := by omega
      have hqm : (q : Int) < (m : Int) := by omega
      have hqm2 : (q : Int) ≤ 4398046511104 := by omega
      have HC := Lib.hid hcell
      have HM := Lib.hid (Nat.mul_comm 32 q)
      have HRR := Lib.hid hR
      have HBOX := Lib.hid hbox
      obtain ⟨fn, tmps, assign, body, hy, hR1⟩ := hR1
      clear hf hcell hJ hR hok hst e1
      gi_wp2_with (first
        | (refine wpListIn_load_at (fun _ => trivial) rfl 30 _ rfl (ad.add (32 * q)) (by first | rfl | (rw [HM.out]; rfl)) 32 (fun i => bv (f i)) 5 HC.out Tryd.underlying30 (by kernel_rfl) ?_)
        | (refine ⟨rfl, ?_⟩; refine hR1.mono ?_; clear hR1; rintro e W' (⟨rfl, hJ', hk'⟩ | ⟨rfl, hJx'⟩)))
      · have hkk : ∀ (a : Addr) (x : Value), (a.block < B ∧ ¬ own a.block) → wr.cell? a = some x → W'.cell? a = some x := fun a x ha h => cell_keep hk' ha.2 h
        exact ⟨⟨q, by omega, rfl, hJ', cell_keep hk' HBo.out HBOX.out, HRR.out.kept hkk⟩, by simp [intOf]⟩
      · refine bodyPost_ret (results_none rfl _ _ _) rfl ?_
        exact ⟨⟨_, rfl⟩, .inr ⟨_, bk_prefix _ _, by rw [HNE.out]; simp, hJx'⟩⟩
    · have HJ0 := Lib.hid hJ
      clear hJ hbox
      have e1 : (((0 : Nat) : Int) - 1) = -1 := rfl
      rw [e1]
      gi_wp2
      go_end0
      exact ⟨⟨_, rfl⟩, .inl HJ0.out⟩
theorem back_seq (own : Nat → Prop) (Bp : Nat) (A : Option Addr) (m c : Nat) (l : List D) (hm : m ≤ 4398046511104) (w : World) (hown : ∀ b, own b → b < w.heap.size)
    (hbox : w.cell? ⟨Bp, 0, none⟩ = some (.slice A m c)) (hbo : ¬ own Bp) (hr : RdI w (fun b => b < w.heap.size ∧ ¬ own b) (.slice A m c) l) :
    SeqC Tryd.prog 62 #[.pointer (some ⟨Bp, 0, none⟩)] (encK l) own (bk m 0) w := by
  intro j J Jx W hW hJ hJx hY h0
  have hBp : Bp < w.heap.size := block_lt_of_cell hbox
  have hr2 : RdI W (fun b => b < W.heap.size ∧ ¬ own b) (.slice A m c) l := (hr.kept fun a x ha h => (hW.cell (p := a) ha.1).trans h).mono fun b hb => ⟨Nat.lt_of_lt_of_le hb.1 hW.size, hb.2⟩
  exact back_iter j W.heap.size own (fun b hb => Nat.lt_of_lt_of_le (hown b hb) hW.size) J Jx hJ hJx Bp A m c l hm W rfl ((hW.cell (p := ⟨Bp, 0, none⟩) hBp).trans hbox) hbo hr2 hY h0
/-- The root so far. -/
def rootVal (l : List D) (r : D) (pre : List Nat) : D := pre.foldl (fun r k => node (l.getD k dz) r) r
theorem rootVal_snoc (l : List D) (r : D) (pre : List Nat) (k : Nat) : rootVal l r (pre ++ [k]) = node (l.getD k dz) (rootVal l r pre) := by simp [rootVal]
theorem range_getD (l : List D) : (List.range l.length).map (fun k => l.getD k dz) = l := by
  apply List.ext_getElem (by simp)
  intro i h1 h2
  simp only [List.getElem_map, List.getElem_range]
  rw [List.getD_eq_getElem?_getD, List.getElem?_eq_getElem h2]
  rfl
theorem rootVal_all (ts : List D) (m : Nat) (hm : ts.length = m + 1) : rootVal ts.dropLast (ts.getD m dz) (bk m 0) = rootOf ts := by
  have hne : ts ≠ [] := by rintro rfl; simp at hm
  unfold rootVal rootOf
  rw [if_neg hne, bk_zero, List.foldl_reverse]
  have hl : ts.dropLast.length = m := by rw [List.length_dropLast, hm]; rfl
  have e : ts.getLastD (sha []) = ts.getD m dz := by
    rw [List.getLastD_eq_getLast?, List.getLast?_eq_getElem?, show ts.length - 1 = m from by omega, List.getElem?_eq_getElem (by omega), List.getD_eq_getElem?_getD, List.getElem?_eq_getElem (by omega)]
    rfl
  rw [e]
  conv => rhs; rw [← range_getD ts.dropLast, hl, List.foldr_map]
set_option maxRecDepth 100000 in
set_option maxHeartbeats 2000000 in
theorem treeRoot_any (Z : Nat → Prop) (g : Nat) (L : List D) (w : World) (hT : Tables w) (h : TreeAt w Z g L) :
    CallsIn Fence.wide 0 Tryd.prog 21 #[.pointer (some ⟨g, 0, none⟩)] w fun e w' => e = .returned (.agg (arr 32 fun i => bv (mth L i))) ∧ Below w.heap.size w w' := by
  obtain ⟨v1, hB, hO, _, _, _, hp, hle⟩ := id h
  have hpl : (tops L).length ≤ 1000 := by
    have := pop_le 41 L.length (by omega)
    omega
  have HMR := Lib.hid (root_tops L.length L rfl)
  generalize tops L = ts at *
  generalize mth L = R at *
  obtain ⟨A, c, rfl, hcap⟩ := own_len hO
  have HT := Lib.hid hT
  have HB := Lib.hid hB
  have HO := Lib.hid hO
  have hgl := hB.lt
  have hZ32 : Hid (Array.replicate 32 (bv 0) = arr 32 fun _ => bv 0) := Lib.hid (by rw [← upto_none 32 (fun _ => bv 0) (bv 0)]; exact arr_congr fun i _ => by simp)
  obtain ⟨n, hn⟩ : ∃ n, ts.length = n := ⟨_, rfl⟩
  have c1 : (w.alloc (.cells #[.int .u8 0, .int .u8 0, .int .u8 0, .int .u8 0, .int .u8 0, .int .u8 0, .int .u8 0, .int .u8 0, .int .u8 0, .int .u8 0, .int .u8 0, .int .u8 0, .int .u8 0, .int .u8 0, .int .u8 0, .int .u8 0, .int .u8 0, .int .u8 0, .int .u8 0, .int .u8 0, .int .u8 0, .int .u8 0, .int .u8 0, .int .u8 0, .int .u8 0, .int .u8 0, .int .u8 0, .int .u8 0, .int .u8 0, .int .u8 0, .int .u8 0, .int .u8 0] 30)).cell? ⟨g, 1, none⟩ = some (.slice A n c) := by
    rw [← hn]
    exact (World.cell?_alloc_lt w _ _ hgl).trans (hB.cell 1)
  rw [hn] at HO hpl hp
  have HNN := Lib.hid hn
  clear hT hB hO hn h hp
  refine callsIn_of_wp_marks Tryd.func21 rfl trivial ?_ rfl
  simp only [Tryd.ntmps21, List.size_toArray, List.length_cons, List.length_nil, Nat.reduceAdd, Nat.reduceSub, Array.replicate_succ, Array.replicate_zero, List.push_toArray, List.append_toArray, List.nil_append, List.cons_append]
  by_cases h0 : n = 0
  · subst h0
    have hts : ts = [] := List.length_eq_zero_iff.1 HNN.out
    have hR : R = sha [] := by rw [← HMR.out, hts]; rfl
    rw [hR]
    have hT0 : Tables (w.alloc (.cells (Array.replicate 32 (bv 0)) 30)) := HT.out.below ((Below.refl _ _).alloc (Nat.le_refl _) _)
    have HO1 := Lib.hid (of_any none 0 [] (by simp) (by simp) _ hT0 (fun k hk => by simp at hk))
    have hS0 : Blk (w.alloc (.cells (Array.replicate 32 (bv 0)) 30)) w.heap.size 30 (Array.replicate 32 (bv 0)) := Blk.new _ _ _
    have hb0 : Below w.heap.size w (w.alloc (.cells (Array.replicate 32 (bv 0)) 30)) := (Below.refl _ _).alloc (Nat.le_refl _) _
    have HS0 := Lib.hid hS0
    have HB0 := Lib.hid hb0
    clear hT0 hS0 hb0 hR hts
    gi_wp2_with (first
      | (refine ⟨trivial, rfl, ?_⟩; gi_at_call 43; refine HO1.out.mono ?_; rintro e W2 ⟨rfl, hb2⟩; have hS2 := HS0.out.below hb2 HS0.out.lt)
      | (refine wpListIn_store_arrW (fun _ => trivial) rfl 30 _ _ rfl w.heap.size (arr 32 fun i => bv (sha [] i)) rfl rfl 30 _ hS2 (by rw [arr_size]; kernel_rfl) (by rw [arr_size]; rfl) (arr_all_bv _ _) ?_; intro W3 hS3 hz3 hb3 hk3 hq3))
    exact ⟨_, results_cell_row (p := 2) (ty := 30) rfl _ _ w.heap.size 30 _ (0, 0) _ rfl hS3 Tryd.underlying30 rfl (by rw [arr_size]; kernel_rfl), rfl, (HB0.out.trans (hb2.mono (by simp))).trans hb3⟩
  · obtain ⟨m, rfl⟩ : ∃ m, n = m + 1 := ⟨n - 1, by omega⟩
    obtain ⟨G, rfl⟩ := own_addrN HO.out (by omega)
    obtain ⟨last, hlast⟩ : ∃ last, ts.getD m dz = last := ⟨_, rfl⟩
    have hmb : (m : Int) ≤ 1000 := by omega
    have hml : (m : Int) < ((m + 1 : Nat) : Int) := by omega
    have hml2 : (m : Int) < (m : Int) + 1 := by omega
    have hm0 : (0 : Int) ≤ (m : Int) := by omega
    have hRV : rootVal ts.dropLast last (bk m 0) = R := by rw [← hlast, rootVal_all ts m HNN.out, HMR.out]
    have hG := HO.out.lt G rfl
    have hrow : ∀ W, Below w.heap.size w W → ∀ i, i < 32 → W.cell? ((⟨G, m * 32, none⟩ : Addr).add i) = some (bv (last i)) := fun W hb i hi => by
      rw [Addr.add_mid, (hb.cell (p := ⟨G, m * 32 + i, none⟩) hG.2), HO.out.cellAt (m * 32 + i) (by omega), Nat.mul_comm m 32, idCells_at ts m i (by rw [HNN.out]; omega) hi, hlast]
    have hR0 : Blk ((w.alloc (.cells (Array.replicate 32 (bv 0)) 30)).alloc (.cells (Array.replicate 32 (bv 0)) 30)) w.heap.size 30 (Array.replicate 32 (bv 0)) := (Blk.new w _ _).alloc _
    have hS0 : Blk ((w.alloc (.cells (Array.replicate 32 (bv 0)) 30)).alloc (.cells (Array.replicate 32 (bv 0)) 30)) (w.heap.size + 1) 30 (Array.replicate 32 (bv 0)) := Blk.newAt _ _ (by simp) rfl
    have hb0 : Below w.heap.size w ((w.alloc (.cells (Array.replicate 32 (bv 0)) 30)).alloc (.cells (Array.replicate 32 (bv 0)) 30)) := ((Below.refl _ w).alloc (Nat.le_refl _) _).alloc (by simp) _
    have HX : Hid (∀ W2, Blk W2 (w.heap.size + 1) 30 (arr 32 fun i => bv (last i)) → W2.heap.size = w.heap.size + 2 → Below (w.heap.size + 1) ((w.alloc (.cells (Array.replicate 32 (bv 0)) 30)).alloc (.cells (Array.replicate 32 (bv 0)) 30)) W2 →
        Blk W2 w.heap.size 30 (Array.replicate 32 (bv 0)) ∧ Below w.heap.size w W2) := Lib.hid fun W2 h1 h2 h3 => ⟨hR0.below h3 (by omega), hb0.trans (h3.mono (by omega))⟩
    have hcl : ∀ W, Below w.heap.size w W → W.cell? ⟨g, 1, none⟩ = some (.slice (some ⟨G, 0, none⟩) (m + 1) c) := fun W hb => by
      have := (HB.out.below hb hgl).cell 1
      rw [HNN.out] at this
      exact this
    have hHR := Lib.hid (hrow _ ((Below.refl _ w).alloc (Nat.le_refl _) (.cells (Array.replicate 32 (bv 0)) 30)))
    have hsl := run_slice_toN (P := Tryd.prog) 22 30 Tryd.underlying22 32 (by kernel_rfl) (some ⟨G, 0, none⟩) (m + 1) c m (by have := HNN.out; omega)
    have HS0 := Lib.hid hS0
    have HCL := Lib.hid hcl
    have HRV := Lib.hid hRV
    have HRW := Lib.hid hrow
    clear hR0 hb0 hS0 hcl hRV hrow hlast h0
    gi_wp2_with (first
      | (refine wpListIn_load_at (fun _ => trivial) rfl 30 _ rfl ⟨G, m * 32, none⟩ rfl 32 (fun i => bv (last i)) 5 hHR.out Tryd.underlying30 (by kernel_rfl) ?_)
      | (refine wpListIn_store_arrW (fun _ => trivial) rfl 30 _ _ rfl (w.heap.size + 1) (arr 32 fun i => bv (last i)) rfl rfl 30 _ HS0.out (by rw [arr_size]; kernel_rfl) (by rw [arr_size]; rfl) (arr_all_bv _ _) ?_; intro W2 hS2 hz2 hb2 _ _; obtain ⟨hR2, hbw⟩ := HX.out W2 hS2 (by simpa using hz2) hb2; have cW2 := HCL.out W2 hbw)
      | (refine ⟨trivial, rfl, ?_⟩; gi_at_call 45; refine (backward_any _ _ _ _).mono ?_; rintro e w' ⟨rfl, rfl⟩))
    have hz2' : W2.heap.size = w.heap.size + 2 := by simpa using hz2
    have hS3 := hS2.alloc (.cells #[.slice (some ⟨G, 0, none⟩) m c] 22)
    have hR3 := hR2.alloc (.cells #[.slice (some ⟨G, 0, none⟩) m c] 22)
    have hb3 : Below w.heap.size w (W2.alloc (.cells #[.slice (some ⟨G, 0, none⟩) m c] 22)) := hbw.alloc hbw.size _
    have hX3 : (W2.alloc (.cells #[.slice (some ⟨G, 0, none⟩) m c] 22)).cell? ⟨W2.heap.size, 0, none⟩ = some (.slice (some ⟨G, 0, none⟩) m c) := (Blk.new W2 22 #[.slice (some ⟨G, 0, none⟩) m c]).cell 0
    have hz3 : (W2.alloc (.cells #[.slice (some ⟨G, 0, none⟩) m c] 22)).heap.size = w.heap.size + 3 := by simp; omega
    rw [hz2'] at hX3
    clear hz2' hz2 hS2 hR2 hbw hb2 HX HS0 hHR cW2
    generalize W2.alloc (.cells #[.slice (some ⟨G, 0, none⟩) m c] 22) = W3 at *
    have HZ := Lib.hid hz3
    have hrd : RdI W3 (fun b => b < W3.heap.size ∧ ¬ b = w.heap.size + 1) (.slice (some ⟨G, 0, none⟩) m c) ts.dropLast := by
      have h0 := own_cutN HO.out (show m ≤ m + 1 by omega)
      have hl := HNN.out
      rw [idCells_take ts m (by omega), show ts.take m = ts.dropLast from by rw [List.dropLast_eq_take, hl]; rfl] at h0
      have h1 := own_rd h0 (by omega)
      refine (h1.kept (W' := W3) fun a x ha h => (hb3.cell (p := a) ha.2.2).trans h).mono fun b hb => ?_
      have := hb.2.2
      exact ⟨by omega, by omega⟩
    refine wpIn_rangeFunc_C (gf := 62) (lb := #[.pointer (some ⟨w.heap.size + 1 + 1, 0, none⟩)]) rfl (enters_of Tryd.func62 (by kernel_rfl) rfl)
      (back_seq (fun b => b = w.heap.size + 1) (w.heap.size + 2) (some ⟨G, 0, none⟩) m c ts.dropLast (by omega) W3 (fun b hb => by subst hb; omega) hX3 (by omega) hrd) (fun _ => rfl)
      (fun pre W => Blk W (w.heap.size + 1) 30 (arr 32 fun i => bv (rootVal ts.dropLast last pre i)) ∧ Blk W w.heap.size 30 (Array.replicate 32 (bv 0)) ∧ Below w.heap.size w W)
      (fun _ _ _ => False)
      (fun s A B hs hb => ⟨hs.1.below hb (by omega), hs.2.1.below hb (by omega), hs.2.2.trans (hb.mono (by omega))⟩)
      (fun _ _ _ _ hs _ => hs)
      ⟨hS3, hR3, hb3⟩
      (fun x a' W => ∃ Bx, w.heap.size + 3 ≤ Bx ∧ Blk W Bx 30 (arr 32 fun i => bv (ts.dropLast.getD x dz i)) ∧ a' = { tmps := #[.pointer (some ⟨g, 0, none⟩), undef, .pointer (some ⟨w.heap.size, 0, none⟩), .int .i64 (m : Int), .pointer (some ⟨w.heap.size + 1, 0, none⟩), undef, .pointer (some ⟨Bx, 0, none⟩), .pointer (some ⟨g, 0, none⟩), .pointer (some ⟨g, 0, none⟩), .pointer (some ⟨g, 1, none⟩), .slice (some ⟨G, 0, none⟩) (m + 1) c, .int .i64 ((m : Int) + 1), .bool false, undef, .pointer (some ⟨g, 0, none⟩), .pointer (some ⟨g, 0, none⟩), .pointer (some ⟨g, 1, none⟩), .slice (some ⟨G, 0, none⟩) (m + 1) c, .int .i64 ((m : Int) + 1), .int .i64 (m : Int), .pointer (some ⟨g, 0, none⟩), .pointer (some ⟨g, 0, none⟩), .pointer (some ⟨g, 1, none⟩), .slice (some ⟨G, 0, none⟩) (m + 1) c, .int .i64 (m : Int), .pointer (some ⟨G, m * 32, none⟩), .agg (arr 32 fun i => bv (last i)), .pointer (some ⟨g, 0, none⟩), .pointer (some ⟨g, 0, none⟩), .pointer (some ⟨g, 1, none⟩), .slice (some ⟨G, 0, none⟩) (m + 1) c, .int .i64 (m : Int), .slice (some ⟨G, 0, none⟩) m c, .func (.func 62) #[] #[.pointer (some ⟨w.heap.size + 1 + 1, 0, none⟩)], .int .i64 (x : Int), .agg (arr 32 fun i => bv (ts.dropLast.getD x dz i)), undef, undef, undef, undef], defers := [] })
      (fun x a' W l o o' _ h1 h2 h3 => by
        obtain ⟨Bx, q1, q2, q3⟩ := h3
        exact ⟨Bx, q1, q2.putObj o' h1 h2, q3⟩) ?assign ?body ?done ?stop
    case assign =>
      intro l pre x W K hlt hpre hi hK
      have hB0 : Blk (W.alloc (.cells (Array.replicate 32 (bv 0)) 30)) W.heap.size 30 (Array.replicate 32 (bv 0)) := Blk.newAt _ _ rfl rfl
      obtain ⟨fx, hfx⟩ : ∃ fx, ts.dropLast.getD x dz = fx := ⟨_, rfl⟩
      unfold encK
      rw [hfx] at hK ⊢
      have HI := Lib.hid hi
      have HKK := Lib.hid hK
      have HFX := Lib.hid hfx
      clear hi hS3 hR3 hb3 hX3 hrd hK hfx
      simp only [List.zip_toArray, List.zip_cons_cons, List.zip_nil_right, List.foldl_toArray, List.foldl_cons, List.foldl_nil, List.setIfInBounds_toArray, List.set_cons_zero, List.set_cons_succ]
      gi_wp2_with (refine wpListIn_store_arrW (fun _ => trivial) rfl 30 _ _ rfl W.heap.size (arr 32 fun i => bv (fx i)) rfl rfl 30 _ hB0 (by rw [arr_size]; kernel_rfl) (by rw [arr_size]; rfl) (arr_all_bv _ _) ?_; intro W5 hS5 hz5 hb5 _ _)
      have hbel : Below W.heap.size W W5 := ((Below.refl _ W).alloc (Nat.le_refl _) _).trans hb5
      have hi := HI.out
      exact HKK.out _ _ (keepsFrom_of_below hbel) (.of_below hbel) ⟨hi.1.below hbel hi.1.lt, hi.2.1.below hbel hi.2.1.lt, hi.2.2.trans (hbel.mono hi.2.2.size)⟩ ⟨W.heap.size, by have := HZ.out; omega, hS5, rfl⟩
    case body =>
      rintro l pre x a' W hl hlt hpre ⟨hS, hR, hb⟩ ⟨Bx, hBx, bX, rfl⟩
      obtain ⟨fx, hfx⟩ : ∃ fx, ts.dropLast.getD x dz = fx := ⟨_, rfl⟩
      obtain ⟨rv, hrv⟩ : ∃ rv, rootVal ts.dropLast last pre = rv := ⟨_, rfl⟩
      have HSN := Lib.hid (rootVal_snoc ts.dropLast last pre x)
      rw [hfx] at bX HSN ⊢
      rw [hrv] at hS HSN
      have hT := HT.out.below hb
      have HND : Hid (Calls Tryd.prog 33 #[.agg (arr 32 fun i => bv (fx i)), .agg (arr 32 fun i => bv (rv i))] W fun e w' => e = .returned (.agg (arr 32 fun i => bv (node fx rv i))) ∧ Below W.heap.size W w') := Lib.hid (node_any fx rv W hT)
      have HB := Lib.hid hb
      have HRR := Lib.hid hR
      have HSZ : Hid (w.heap.size + 1 < W.heap.size) := Lib.hid hS.lt
      clear hb hR hS3 hR3 hb3 hX3 hrd hfx hrv hT
      gi_wp2_with (first
        | (refine wpListIn_load_arr (fun _ => trivial) rfl 30 _ rfl (w.heap.size + 1) rfl 30 _ _ hS Tryd.underlying30 rfl (by rw [arr_size]; kernel_rfl) ?_)
        | (refine wpListIn_load_arr (fun _ => trivial) rfl 30 _ rfl Bx rfl 30 _ _ bX Tryd.underlying30 rfl (by rw [arr_size]; kernel_rfl) ?_)
        | (refine ⟨trivial, rfl, ?_⟩; gi_at_call 33; refine (CallsIn.inRound l (callsIn_wide.2 HND.out)).mono ?_; rintro e W6 ⟨rfl, hb6⟩; have hS6 := hS.below hb6 HSZ.out)
        | (refine wpListIn_store_arrW (fun _ => trivial) rfl 30 _ _ rfl (w.heap.size + 1) (arr 32 fun i => bv (node fx rv i)) rfl rfl 30 _ hS6 (by rw [arr_size]; kernel_rfl) (by rw [arr_size, arr_size]) (arr_all_bv _ _) ?_; intro W7 hS7 hz7 hb7 hk7 hq7))
      refine ⟨keepsFrom_trans (keepsFrom_of_below hb6) (keepsFrom_row hS6 (by omega) hq7), (Keep.of_below hb6).trans hk7, ?_, ?_, ?_⟩
      · rw [HSN.out]; exact hS7
      · exact (HRR.out.below hb6 HRR.out.lt).below hb7 (by omega)
      · exact (HB.out.trans (hb6.mono HB.out.size)).trans (hb7.mono (by omega))
    case done =>
      rintro D W hD ⟨hS, hR, hb⟩ hK
      rw [HRV.out] at hS
      have HB := Lib.hid hb
      have HD := Lib.hid hK
      have HRR := Lib.hid hR
      clear hb hK hR hS3 hR3 hb3 hX3 hrd
      gi_wp2_with (first
        | (refine wpListIn_load_arr (fun _ => trivial) rfl 30 _ rfl (w.heap.size + 1) rfl 30 _ _ hS Tryd.underlying30 rfl (by rw [arr_size]; kernel_rfl) ?_)
        | (refine wpListIn_store_arrW (fun _ => trivial) rfl 30 _ _ rfl w.heap.size (arr 32 fun i => bv (R i)) rfl rfl 30 _ HRR.out (by rw [arr_size]; kernel_rfl) (by rw [arr_size]; rfl) (arr_all_bv _ _) ?_; intro W7 hR7 hz7 hb7 hk7 hq7))
      have hD7 : W7.heap[D]? = some (.deferred (some [])) := (hq7 D (by have := HZ.out; omega)).trans HD.out
      refine ⟨by simp, .inl ⟨_, _, rfl, run_takeDeferred hD7, ?_⟩⟩
      exact ⟨_, results_cell_row (p := 2) (ty := 30) rfl _ _ w.heap.size 30 _ (0, 0) _ rfl (hR7.putObj _ hD7 rfl) Tryd.underlying30 rfl (by rw [arr_size]; kernel_rfl), rfl,
        below_putObj (HB.out.trans hb7) _ (by have := HZ.out; omega)⟩
    case stop =>
      rintro D c pre W _ _ _ h _
      exact h.elim
end Go.Proofs.YtkkanaefngggoaaDoor
