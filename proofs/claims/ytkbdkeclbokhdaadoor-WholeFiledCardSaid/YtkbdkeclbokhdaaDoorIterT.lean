/-
  The iterator over the blocks of parts: for every list of parts of bytes together shorter than 2^60, however they are cut, whatever the loop's body does with the blocks without writing what the iterator reads: the blocks come as the standard says, in order; a body may leave.
-/
import Derived.Test.YtkbdkeclbokhdaaDoorEnd
import Derived.Test.YtkbdkeclbokhdaaDoorRd
namespace Go.Proofs.YtkbdkeclbokhdaaDoor
open Go Go.RowKit Go.Shelf
attribute [local go_sem] Oper.semAt_some

/-- What the iterator's own variable holds when q bytes have gone through. -/
def Filled (W : World) (g : Nat) (L : List UInt8) (q : Nat) : Prop := ∃ c : Nat → UInt8, Blk W g 147 (arr 64 fun i => bv (c i)) ∧ ∀ i, i < q % 64 → c i = fullBlk L (q / 64) i

def slen : Value → Nat
  | .slice _ n _ => n
  | _ => 0
/-- What holds between two parts, and within one. -/
def OutR (ps : List (List UInt8)) (ok : Nat → Prop) (g : Nat) (Ap : Option Addr) (J : List (Nat → UInt8) → World → Prop) (np : Nat) (f s i : Value) (wr : World) : Prop :=
  ∃ k, k ≤ np ∧ i = .int .i64 (k : Int) ∧ f = .int .i64 ((pos ps k % 64 : Nat) : Int) ∧ s = .int .u64 (pos ps k : Int) ∧ Filled wr g ps.flatten (pos ps k) ∧ J (fulls ps.flatten (pos ps k / 64)) wr ∧ RdP wr ok Ap ps ∧ g < wr.heap.size
def InR (ps : List (List UInt8)) (ok : Nat → Prop) (g : Nat) (Ap : Option Addr) (J : List (Nat → UInt8) → World → Prop) (bs : List UInt8) (p : Nat) (f part : Value) (wr : World) : Prop :=
  ∃ m, m ≤ bs.length ∧ RdB wr ok part (bs.drop m) ∧ f = .int .i64 (((p + m) % 64 : Nat) : Int) ∧ Filled wr g ps.flatten (p + m) ∧ J (fulls ps.flatten ((p + m) / 64)) wr ∧ RdP wr ok Ap ps ∧ g < wr.heap.size

set_option maxRecDepth 100000 in
set_option maxHeartbeats 1000000 in
theorem iter_any (l B : Nat) (own : Nat → Prop) (hown : ∀ b, own b → b < B) (J Jx : List (Nat → UInt8) → World → Prop) (hJ : AbB B J) (hJx : AbB B Jx) (Bp : Nat) (Ap : Option Addr) (cp : Nat) (ps : List (List UInt8)) (hps : ps.length ≤ 140737488351232) (hL : ps.flatten.length < 1152921504606846976)
    (W : World) (hB : B = W.heap.size) (hbox : W.cell? ⟨Bp, 0, none⟩ = some (.slice Ap ps.length cp)) (hbo : ¬ own Bp) (hr : RdP W (fun b => b < B ∧ ¬ own b) Ap ps)
    (hY : ∀ q x W1, (q ++ [x]) <+: allBlocks ps.flatten → J q W1 → YieldAt Fence.wide 0 Tryd.prog l (encB x) W1 fun e W' => (e = .returned (.bool true) ∧ J (q ++ [x]) W' ∧ Keep own W1 W') ∨ (e = .returned (.bool false) ∧ Jx (q ++ [x]) W'))
    (h0 : J [] W) :
    CallsIn Fence.wide 0 Tryd.prog 85 #[.func (.yield l) #[] #[], .pointer (some ⟨Bp, 0, none⟩)] W fun e W' => (∃ v, e = .returned v) ∧ (J (allBlocks ps.flatten) W' ∨ ∃ q, q <+: allBlocks ps.flatten ∧ q ≠ [] ∧ Jx q W') := by
  have HJ := Lib.hid hJ
  have HJx := Lib.hid hJx
  have HY := Lib.hid hY
  have HO := Lib.hid hown
  have H0 := Lib.hid h0
  have HR := Lib.hid hr
  have HBo := Lib.hid hbo
  have HB := Lib.hid hB
  have hBp : Bp < W.heap.size := block_lt_of_cell hbox
  obtain ⟨np, hnp⟩ : ∃ np, ps.length = np := ⟨_, rfl⟩
  rw [hnp] at hbox hps
  have HN := Lib.hid hnp
  clear hJ hJx hY hown h0 hr hbo hB hnp
  refine callsIn_of_wp Tryd.func85 rfl trivial ?_ rfl
  simp only [Tryd.ntmps85, List.size_toArray, List.length_cons, List.length_nil, Nat.reduceAdd, Nat.reduceSub, Array.replicate_succ, Array.replicate_zero, List.push_toArray, List.append_toArray, List.nil_append, List.cons_append]
  have hbox1 : (W.alloc (.cells (Array.replicate 64 (bv 0)) 147)).cell? ⟨Bp, 0, none⟩ = some (.slice Ap np cp) := (World.cell?_alloc_lt W _ _ hBp).trans hbox
  gi_wp2
  gi_loopw [4, 5, 11] (fun f s i wr => OutR ps (fun b => b < B ∧ ¬ own b) W.heap.size Ap J np f s i wr) (fun _ _ i _ => np - (intOf i).toNat)
  case atStart =>
    refine ⟨0, Nat.zero_le _, rfl, by rw [pos_zero]; rfl, by rw [pos_zero]; rfl, ?_, ?_, ?_, by simp⟩
    · rw [pos_zero]
      exact ⟨fun _ => 0, Blk.newAt _ _ rfl zero64, fun i hi => absurd hi (by omega)⟩
    · rw [pos_zero]
      exact HJ.out _ _ _ H0.out ((Below.refl B W).alloc (by rw [HB.out]; exact Nat.le_refl _) _)
    · exact HR.out.kept fun a x ha h => (World.cell?_alloc_lt W _ _ (by rw [← HB.out]; exact ha.1)).trans h
  case round =>
    obtain ⟨k, hk, rfl, rfl, rfl, hF, hJ, hR, hsz⟩ := hrel
    by_cases hlt : k < np
    · obtain ⟨ad, v, rfl, hok, hcell, hread⟩ := hR k (by rw [HN.out]; exact hlt)
      have hps2 := pos_succ ps k (by rw [HN.out]; exact hlt)
      have hpl := pos_le ps (k + 1) (by rw [HN.out]; exact hlt)
      have hfa : Hid (∀ j, j < (ps.getD k []).length → ps.flatten.getD (pos ps k + j) 0 = (ps.getD k []).getD j 0) := Lib.hid fun j hj => flat_at ps k j (by rw [HN.out]; exact hlt) hj
      obtain ⟨A0, c0, rfl, hc0, hn0, hcs0⟩ := hread
      have HREAD : Hid (RdB wr (fun b => b < B ∧ ¬ own b) (.slice A0 (ps.getD k []).length c0) (ps.getD k [])) := Lib.hid ⟨A0, c0, rfl, hc0, hn0, hcs0⟩
      clear hcs0
      obtain ⟨bs, hbs⟩ : ∃ bs, ps.getD k [] = bs := ⟨_, rfl⟩
      obtain ⟨p, hp⟩ : ∃ p, pos ps k = p := ⟨_, rfl⟩
      obtain ⟨p', hp'⟩ : ∃ p', pos ps (k + 1) = p' := ⟨_, rfl⟩
      rw [hbs] at hps2 hfa hc0 hn0 HREAD hcell
      rw [hp] at hF hJ hps2 hfa ⊢
      rw [hp'] at hps2 hpl
      have HP' := Lib.hid hp'
      clear hbs hp hp'
      obtain ⟨n, hn⟩ : ∃ n, bs.length = n := ⟨_, rfl⟩
      rw [hn] at hps2 hc0 hn0 HREAD hcell
      have e1 : IntKind.u64.wrap (n : Int) = (n : Int) := by rw [IntKind.wrap_u64]; omega
      have e2 : IntKind.u64.wrap ((p : Int) + (n : Int)) = (p' : Int) := by rw [IntKind.wrap_u64]; omega
      have HPN := Lib.hid hps2
      have HNN := Lib.hid hn
      clear hps2 hn
      gi_wp2
      gi_loopw [4, 7] (fun f part wr => InR ps (fun b => b < B ∧ ¬ own b) W.heap.size (some ad) J bs p f part wr) (fun _ part _ => slen part)
      case atStart => exact ⟨0, Nat.zero_le _, HREAD.out, rfl, hF, hJ, hR, hsz⟩
      case round =>
        clear hF hJ hR hsz HREAD hcell
        obtain ⟨m, hm, ⟨A1, c1, rfl, hc1, hn1, hcs1⟩, rfl, hF, hJ, hR, hsz⟩ := hrel
        have HPART : Hid (RdB wr (fun b => b < B ∧ ¬ own b) (.slice A1 (bs.drop m).length c1) (bs.drop m)) := Lib.hid ⟨A1, c1, rfl, hc1, hn1, hcs1⟩
        obtain ⟨r, hr⟩ : ∃ r, (bs.drop m).length = r := ⟨_, rfl⟩
        have hrm : r = n - m := by rw [← hr, List.length_drop, HNN.out]
        have HRM := Lib.hid hrm
        rw [hr] at hc1 hn1 hcs1 HPART ⊢
        rw [HNN.out] at hm
        have hmr : m + r = n := by omega
        have HMR := Lib.hid hmr
        clear hr hrm hmr
        by_cases hr0 : 0 < r
        · obtain ⟨ad1, rfl, hok1, hcell1⟩ := hcs1 hr0
          obtain ⟨c, hB1, hcf⟩ := hF
          obtain ⟨f, hf⟩ : ∃ f, (p + m) % 64 = f := ⟨_, rfl⟩
          have hf64 : f < 64 := by omega
          obtain ⟨n1, hn1'⟩ : ∃ n1, min r (64 - f) = n1 := ⟨_, rfl⟩
          rw [hf] at hcf ⊢
          have HF := Lib.hid hf
          have HN1 := Lib.hid hn1'
          have hmin : Nat.min r (64 - f) = n1 := hn1'
          have b1 : n1 ≤ r := by omega
          have b2 : f + n1 ≤ 64 := by omega
          have b3 : 0 < n1 := by omega
          clear hf hn1'
          have hsrc : Hid (0 < n1 → ∃ ad, some ad1 = some ad ∧ ∀ j, j < n1 → wr.cell? (ad.add j) = some (bv ((bs.drop m).getD j 0))) := Lib.hid fun _ => ⟨ad1, rfl, fun j hj => hcell1 j (by omega)⟩
          clear hcs1 hcell1
          obtain ⟨c', hc', hcf'⟩ : ∃ c' : Nat → UInt8, (∀ i, i < 64 → (if f ≤ i ∧ i < f + n1 then bv ((bs.drop m).getD (i - f) 0) else bv (c i)) = bv (c' i)) ∧ (∀ i, i < f + n1 → c' i = fullBlk ps.flatten ((p + m) / 64) i) := by
            refine ⟨fun i => if f ≤ i ∧ i < f + n1 then (bs.drop m).getD (i - f) 0 else c i, fun i _ => ?_, fun i hi => ?_⟩
            · by_cases h : f ≤ i ∧ i < f + n1
              · rw [if_pos h]
                show _ = bv (if f ≤ i ∧ i < f + n1 then (bs.drop m).getD (i - f) 0 else c i)
                rw [if_pos h]
              · rw [if_neg h]
                show _ = bv (if f ≤ i ∧ i < f + n1 then (bs.drop m).getD (i - f) 0 else c i)
                rw [if_neg h]
            · by_cases h : f ≤ i
              · show (if f ≤ i ∧ i < f + n1 then (bs.drop m).getD (i - f) 0 else c i) = _
                have hf := HF.out
                have hq := HMR.out
                have hl := HNN.out
                have h0 := hfa.out (m + (i - f)) (by omega)
                rw [if_pos ⟨h, hi⟩, List.getD_eq_getElem?_getD, List.getElem?_drop, ← List.getD_eq_getElem?_getD, ← h0]
                unfold fullBlk
                congr 1
                omega
              · show (if f ≤ i ∧ i < f + n1 then (bs.drop m).getD (i - f) 0 else c i) = _
                rw [if_neg (by omega)]
                exact hcf i (by omega)
          have HCF := Lib.hid hcf'
          have HC' := Lib.hid hc'
          clear hcf hcf' hc'
          have hsl : ∀ w', (Instr.sliceAt 147 (.pointer (some ⟨W.heap.size, 0, none⟩)) (some (.int .i64 (f : Int))) none none).run Tryd.prog w' = .ok (.slice (some ⟨W.heap.size, f, none⟩) (64 - f) (64 - f)) w' := fun w' => run_arr_from _ 5 64 Tryd.underlying147 (by kernel_rfl) _ f hf64 w'
          have hsl2 : ∀ w', (Instr.sliceAt 42 (.slice (some ad1) r c1) (some (.int .i64 (n1 : Int))) none none).run Tryd.prog w' = .ok (.slice (cutA (some ad1) c1 n1) (r - n1) (c1 - n1)) w' := fun w' => run_slice_from _ 5 Tryd.underlying42 (by kernel_rfl) _ _ _ _ b1 w'
          have HJ0 := Lib.hid hJ
          have HR0 := Lib.hid hR
          have HX : Hid (∀ W1 : World, Blk W1 W.heap.size 147 (arr 64 fun i => bv (c' i)) → W1.heap.size = wr.heap.size → Below W.heap.size wr W1 →
              J (fulls ps.flatten ((p + m) / 64)) W1 ∧ RdP W1 (fun b => b < B ∧ ¬ own b) (some ad) ps ∧ RdB W1 (fun b => b < B ∧ ¬ own b) (.slice (cutA (some ad1) c1 n1) (r - n1) (c1 - n1)) (bs.drop (m + n1)) ∧ W.heap.size < W1.heap.size) := Lib.hid fun W1 hB2 hs2 hb2 => by
            have hBW := HB.out
            refine ⟨HJ.out _ _ _ HJ0.out (hb2.mono (by omega)), HR0.out.kept fun a x ha h => (hb2.cell (p := a) (by rw [← hBW]; exact ha.1)).trans h, ?_, by omega⟩
            have := (HPART.out.cut (k := n1) b1).kept (W' := W1) fun a x ha h => (hb2.cell (p := a) (by rw [← hBW]; exact ha.1)).trans h
            rwa [List.drop_drop] at this
          clear hJ hR
          by_cases hfull : f + n1 < 64
          · have hmod : Hid ((p + (m + n1)) % 64 = f + n1) := Lib.hid (by have := HF.out; omega)
            have hdiv : Hid ((p + (m + n1)) / 64 = (p + m) / 64) := Lib.hid (by have := HF.out; omega)
            gi_wp2_with (refine wpListIn_copy_arrW (fun _ => trivial) rfl _ _ 42 42 rfl 5 Tryd.underlying42 (by kernel_rfl) W.heap.size f (64 - f) (64 - f) rfl (some ad1) r c1 rfl n1 64 (fun i => bv (c i)) 147 hB1 hmin (fun j => bv ((bs.drop m).getD j 0)) hsrc.out b2 (fun _ _ => rfl) (fun i => bv (c' i)) HC'.out ?_; intro W1 hB2 hs2 hb2)
            obtain ⟨x1, x2, x3, x4⟩ := HX.out W1 hB2 hs2 hb2
            refine ⟨⟨m + n1, by have := HMR.out; have := HNN.out; omega, x3, by rw [hmod.out]; go_num, ⟨c', hB2, ?_⟩, by rw [hdiv.out]; exact x1, x2, x4⟩, by show r - n1 < r; omega⟩
            intro i hi
            rw [hmod.out] at hi
            rw [hdiv.out]
            exact HCF.out i hi
          · have hf64' : f + n1 = 64 := by omega
            have hmod : Hid ((p + (m + n1)) % 64 = 0) := Lib.hid (by have := HF.out; omega)
            have hdiv : Hid ((p + (m + n1)) / 64 = (p + m) / 64 + 1) := Lib.hid (by have := HF.out; omega)
            have hjl : Hid ((p + m) / 64 + 1 ≤ ps.flatten.length / 64) := Lib.hid (by have := hdiv.out; have := HPN.out; have := HMR.out; omega)
            have HYY : Hid (∀ W1 : World, J (fulls ps.flatten ((p + m) / 64)) W1 → YieldAt Fence.wide 0 Tryd.prog l (encB (fullBlk ps.flatten ((p + m) / 64))) W1 fun e W' => (e = .returned (.bool true) ∧ J (fulls ps.flatten ((p + m) / 64) ++ [fullBlk ps.flatten ((p + m) / 64)]) W' ∧ Keep own W1 W') ∨ (e = .returned (.bool false) ∧ Jx (fulls ps.flatten ((p + m) / 64) ++ [fullBlk ps.flatten ((p + m) / 64)]) W')) := Lib.hid fun W1 h1 =>
              HY.out _ _ W1 (by rw [← fulls_succ]; exact fulls_prefix _ _ hjl.out) h1
            have HCC : Hid ((arr 64 fun i => bv (c' i)) = arr 64 fun i => bv (fullBlk ps.flatten ((p + m) / 64) i)) := Lib.hid (arr_congr fun i hi => by rw [HCF.out i (by omega)])
            clear hf64'
            gi_wp2_with (first
              | (refine wpListIn_copy_arrW (fun _ => trivial) rfl _ _ 42 42 rfl 5 Tryd.underlying42 (by kernel_rfl) W.heap.size f (64 - f) (64 - f) rfl (some ad1) r c1 rfl n1 64 (fun i => bv (c i)) 147 hB1 hmin (fun j => bv ((bs.drop m).getD j 0)) hsrc.out b2 (fun _ _ => rfl) (fun i => bv (c' i)) HC'.out ?_; intro W1 hB2 hs2 hb2; obtain ⟨x1, x2, x3, x4⟩ := HX.out W1 hB2 hs2 hb2; obtain ⟨fn, tmps, assign, body, hy, hR1⟩ := HYY.out W1 x1; dsimp only [encB] at hy; rw [HCC.out] at hB2)
              | (refine wpListIn_load_arr (fun _ => trivial) rfl 147 _ rfl W.heap.size rfl 147 _ _ hB2 Tryd.underlying147 rfl (by rw [arr_size]; kernel_rfl) ?_)
              | (refine ⟨rfl, ?_⟩; refine hR1.mono ?_; clear hR1; rintro e W' (⟨rfl, hJ', hk'⟩ | ⟨rfl, hJx'⟩)))
            · have hkk : ∀ (a : Addr) (x : Value), (a.block < B ∧ ¬ own a.block) → W1.cell? a = some x → W'.cell? a = some x := fun a x ha h => cell_keep hk' ha.2 h
              have hng : ¬ own W.heap.size := fun h => absurd (HO.out _ h) (by rw [HB.out]; omega)
              refine ⟨⟨m + n1, by have := HMR.out; have := HNN.out; omega, x3.kept hkk, by rw [hmod.out]; rfl, ⟨fullBlk ps.flatten ((p + m) / 64), hB2.kept hk' hng, ?_⟩, by rw [hdiv.out, fulls_succ]; exact hJ', x2.kept hkk, Nat.lt_of_lt_of_le x4 hk'.size⟩, by show r - n1 < r; omega⟩
              intro i hi
              rw [hmod.out] at hi
              exact absurd hi (Nat.not_lt_zero _)
            · refine bodyPost_ret (results_none rfl _ _ _) rfl ?_
              exact ⟨⟨_, rfl⟩, .inr ⟨fulls ps.flatten ((p + m) / 64 + 1), fulls_prefix _ _ hjl.out, by rw [fulls_succ]; simp, by rw [fulls_succ]; exact hJx'⟩⟩
        · have hmn : Hid (p + m = p') := Lib.hid (by have := HMR.out; have := HPN.out; omega)
          have HK : Hid (∀ wr' : World, wr' = wr → ∀ f : Value, f = .int .i64 (((p + m) % 64 : Nat) : Int) → OutR ps (fun b => b < B ∧ ¬ own b) W.heap.size (some ad) J np f (.int .u64 (p' : Int)) (.int .i64 ((k : Int) + 1)) wr') := Lib.hid (by
            rintro wr' rfl f rfl
            refine ⟨k + 1, hlt, by go_num, by rw [HP'.out, hmn.out], by rw [HP'.out], ?_, ?_, hR, hsz⟩
            · rw [HP'.out, ← hmn.out]; exact hF
            · rw [HP'.out, ← hmn.out]; exact hJ)
          clear hF hJ hR hcs1
          gi_wp2
          exact ⟨HK.out _ rfl _ rfl, by simp [intOf]; omega⟩
    · obtain rfl : k = np := by omega
      have hpf : pos ps k = ps.flatten.length := by rw [← HN.out, pos_full]
      rw [hpf] at hF hJ ⊢
      clear hpf hR hlt hk
      obtain ⟨c, hB1, hcf⟩ := hF
      have HCALL := Lib.hid (end_all l B own HO.out J Jx HJ.out HJx.out (fulls ps.flatten (ps.flatten.length / 64)) (fullBlk ps.flatten (ps.flatten.length / 64)) (ps.flatten.length % 64) (by omega) ps.flatten.length (ps.flatten.length * 8)
        (by rw [IntKind.wrap_u64]; omega) (some ⟨W.heap.size, 0, none⟩) 64 wr (by rw [HB.out]; omega)
        (fun _ => ⟨_, rfl, hsz, fun j hj => by
          rw [show (⟨W.heap.size, 0, none⟩ : Addr).add j = ⟨W.heap.size, j, none⟩ from by unfold Addr.add; split <;> simp_all, hB1.cell, arr_get, if_pos (by omega), hcf j hj]⟩)
        (fun q x W1 hq h1 => by
          have := HY.out (fulls ps.flatten (ps.flatten.length / 64) ++ q) x W1 (by rw [List.append_assoc]; exact (List.prefix_append_right_inj _).2 hq) h1
          exact this) hJ)
      obtain ⟨n, hn⟩ : ∃ n, ps.flatten.length = n := ⟨_, rfl⟩
      have HPOST : Hid (∀ W', (J (fulls ps.flatten (ps.flatten.length / 64) ++ endBlocks (fullBlk ps.flatten (ps.flatten.length / 64)) (ps.flatten.length % 64) (ps.flatten.length * 8)) W' ∨ ∃ q, q <+: endBlocks (fullBlk ps.flatten (ps.flatten.length / 64)) (ps.flatten.length % 64) (ps.flatten.length * 8) ∧ q ≠ [] ∧ Jx (fulls ps.flatten (ps.flatten.length / 64) ++ q) W') →
          (J (allBlocks ps.flatten) W' ∨ ∃ q, q <+: allBlocks ps.flatten ∧ q ≠ [] ∧ Jx q W')) := Lib.hid fun W' h => by
        rcases h with h | ⟨q, hq, hne, h⟩
        · exact .inl h
        · exact .inr ⟨_, (List.prefix_append_right_inj _).2 hq, by simp [hne], h⟩
      have hsl : ∀ w', (Instr.sliceAt 147 (.pointer (some ⟨W.heap.size, 0, none⟩)) none (some (.int .i64 ((n % 64 : Nat) : Int))) none).run Tryd.prog w' = .ok (.slice (some ⟨W.heap.size, 0, none⟩) (n % 64) 64) w' := fun w' => run_arr_to _ 5 64 Tryd.underlying147 (by kernel_rfl) _ _ (by omega) w'
      rw [hn] at HCALL HPOST ⊢
      clear hn hcf hJ
      obtain ⟨f, hf⟩ : ∃ f, n % 64 = f := ⟨_, rfl⟩
      rw [hf] at HCALL HPOST hsl ⊢
      clear hf
      gi_wp2_with (refine ⟨trivial, rfl, ?_⟩; gi_at_call 86; refine HCALL.out.mono ?_; rintro e W' ⟨⟨v, rfl⟩, hpost⟩)
      go_end0
      exact ⟨⟨_, rfl⟩, HPOST.out _ hpost⟩

/-- The iterator's maker. -/
theorem blocks_any (A : Option Addr) (n c : Nat) (w : World) : CallsIn Fence.wide 0 Tryd.prog 81 #[.slice A n c] w fun e w' => e = .returned (.func (.func 85) #[] #[.pointer (some ⟨w.heap.size, 0, none⟩)]) ∧ w' = w.alloc (.cells #[.slice A n c] 57) := by
  refine callsIn_of_wp Tryd.func81 rfl trivial ?_ rfl
  simp only [Tryd.ntmps81, List.size_toArray, List.length_cons, List.length_nil, Nat.reduceAdd, Nat.reduceSub, Array.replicate_succ, Array.replicate_zero, List.push_toArray, List.append_toArray, List.nil_append, List.cons_append]
  gi_wp2
  go_ret
  exact ⟨rfl, rfl⟩
theorem blocks_seq (own : Nat → Prop) (Bp : Nat) (Ap : Option Addr) (cp : Nat) (ps : List (List UInt8)) (hps : ps.length ≤ 140737488351232) (hL : ps.flatten.length < 1152921504606846976) (w : World) (hown : ∀ b, own b → b < w.heap.size)
    (hbox : w.cell? ⟨Bp, 0, none⟩ = some (.slice Ap ps.length cp)) (hbo : ¬ own Bp) (hr : RdP w (fun b => b < w.heap.size ∧ ¬ own b) Ap ps) :
    SeqC Tryd.prog 85 #[.pointer (some ⟨Bp, 0, none⟩)] encB own (allBlocks ps.flatten) w := by
  intro l J Jx W hW hJ hJx hY h0
  have hBp : Bp < w.heap.size := block_lt_of_cell hbox
  have hr1 : RdP W (fun b => b < w.heap.size ∧ ¬ own b) Ap ps := hr.kept fun a x ha h => (hW.cell (p := a) ha.1).trans h
  have hr2 : RdP W (fun b => b < W.heap.size ∧ ¬ own b) Ap ps := fun k hk => by
    obtain ⟨ad, v, e1, e2, e3, A, c, e4, e5, e6, e7⟩ := hr1 k hk
    exact ⟨ad, v, e1, ⟨Nat.lt_of_lt_of_le e2.1 hW.size, e2.2⟩, e3, A, c, e4, e5, e6, fun h => by
      obtain ⟨ad', f1, f2, f3⟩ := e7 h
      exact ⟨ad', f1, ⟨Nat.lt_of_lt_of_le f2.1 hW.size, f2.2⟩, f3⟩⟩
  exact iter_any l W.heap.size own (fun b hb => Nat.lt_of_lt_of_le (hown b hb) hW.size) J Jx hJ hJx Bp Ap cp ps hps hL W rfl ((hW.cell (p := ⟨Bp, 0, none⟩) hBp).trans hbox) hbo hr2 hY h0
end Go.Proofs.YtkbdkeclbokhdaaDoor
