/-
  CountOne: walked. No condition.
-/
import Derived.Test.YtogcfkccjddfhaaCntRow
namespace Go.Proofs.Ytogcfkccjddfhaa
open Go Go.RowKit Go.Maps

theorem wpList_load_idR {ops : Array Oper} {rest : List Oper} {o : Oper} {a : Act} {w : World} {Q : Exit → Act → World → Prop} (hw : Region.wanted o (yielded ops a.tmps) = true) (x : Operand) (ho : o.op = .load 24 x) (ad : Addr) (l : List UInt8) (hx : a.eval x = .pointer (some ad)) (hl : (Instr.loadAt 24 (.pointer (some ad))).run Try.prog w = .ok (idv l) w)
    (h : wpList Try.prog ops Q rest (a.put o.dst (idv l)) w) : wpList Try.prog ops Q (o :: rest) a w :=
  wpList_load_runS hw 24 x ho _ _ hx hl h
set_option maxRecDepth 100000 in
set_option maxHeartbeats 4000000 in
theorem countone_low (n : Int) (hn : faults n < 0) (vH v1 v2 : Value) (w : World) : Calls Try.prog 4 #[.int .i64 n, vH, .agg #[v1, v2]] w fun e w' => e = .returned (.bool true) ∧ Below w.heap.size w w' := by
  have HF := Lib.hid fun W => reffaults_any n W
  generalize faults n = f at HF hn
  have hd : decide (f < 0) = true := decide_eq_true hn
  go_enter Try.func4, Try.ntmps4
  go_wp2_with (first
    | (go_at_call 15; refine (counts_any _).mono ?_; rintro e W1 ⟨rfl, hb1⟩; have HB := Lib.hid (((Below.refl _ w).alloc (Nat.le_refl _) _).trans (hb1.mono (by simp))); clear hb1)
    | (go_at_call 17; refine (HF.out _).mono ?_; rintro e W2 ⟨rfl, h2⟩; obtain rfl := h2.symm))
  go_ret
  exact ⟨rfl, HB.out⟩
set_option maxRecDepth 100000 in
set_option maxHeartbeats 8000000 in
theorem countone_high (N f : Nat) (hN : faults (N : Int) = (f : Int)) (h7 : N ≤ 7) (vH v1 v2 : Value) (H F G : List (List UInt8)) (w : World) (rH : RdL w w.heap.size vH H) (rF : RdL w w.heap.size v1 F) (rG : RdL w w.heap.size v2 G) :
    Calls Try.prog 4 #[.int .i64 N, vH, .agg #[v1, v2]] w fun e w' => e = .returned (.bool true) ∧ Below w.heap.size w w' := by
  have HF := Lib.hid fun W => reffaults_any (N : Int) W
  rw [hN] at HF
  have HNW := Lib.hid fun W => new_some (N : Int) W (by rw [hN]; omega)
  have HRH := Lib.hid rH
  have HRF := Lib.hid rF
  have HRG := Lib.hid rG
  obtain ⟨-, AH, cH, rfl, -, -, -⟩ := rH
  obtain ⟨-, AF, cF, rfl, -, -, -⟩ := rF
  obtain ⟨-, AG, cG, rfl, -, -, -⟩ := rG
  obtain ⟨nH, hnH⟩ : ∃ n, H.length = n := ⟨_, rfl⟩
  obtain ⟨nF, hnF⟩ : ∃ n, F.length = n := ⟨_, rfl⟩
  obtain ⟨nG, hnG⟩ : ∃ n, G.length = n := ⟨_, rfl⟩
  rw [hnH] at HRH ⊢
  rw [hnF] at HRF ⊢
  rw [hnG] at HRG ⊢
  have HLN : Hid (H.length = nH ∧ F.length = nF ∧ G.length = nG ∧ faults (N : Int) = (f : Int)) := Lib.hid ⟨hnH, hnF, hnG, hN⟩
  have hf0 : ¬ (f : Int) < 0 := by omega
  have HFN : Hid (f ≤ 7) := Lib.hid (by rcases faults_cases (n := (N : Int)) (by rw [hN]; omega) with ⟨_, h2⟩ | ⟨_, h2⟩ | ⟨_, h2⟩ <;> omega)
  clear hnH hnF hnG hN
  go_enter Try.func4, Try.ntmps4
  go_upto_region 1 with fail
  generalize hW : World.alloc w _ = W0
  have k0 : Blk W0 w.heap.size 50 #[.slice AF nF cF, .slice AG nG cG] := by rw [← hW]; exact Blk.newAt _ _ rfl rfl
  have hb0 : Below w.heap.size w W0 := by rw [← hW]; exact (Below.refl _ _).alloc (Nat.le_refl _) _
  have HK0 := Lib.hid k0
  have HB0 := Lib.hid hb0
  clear hW k0 hb0
  go_upto_region 6 with (first
    | (go_at_call 15; refine (counts_any _).mono ?_; rintro e W1 ⟨rfl, hb1⟩; have HK1 := Lib.hid (HK0.out.below hb1 HK0.out.lt); have HB1 := Lib.hid (HB0.out.trans (hb1.mono HB0.out.size)); clear hb1)
    | (go_at_call 17; refine (HF.out _).mono ?_; rintro e W2 ⟨rfl, h2⟩; obtain rfl := h2.symm))
  go_upto_region 7 with (go_at_call 16; refine (HNW.out _).mono ?_; rintro e W3 ⟨rfl, hc3, hb3⟩; have HC3 := Lib.hid hc3; have HB3 := Lib.hid hb3; clear hc3 hb3)
  go_upto_region 11 with (go_at_call 16; refine (HNW.out _).mono ?_; rintro e W4 ⟨rfl, hc4, hb4⟩; have HC4 := Lib.hid hc4; have HB4 := Lib.hid hb4; clear hc4 hb4)
  have hT : TwoC w W4 w.heap.size (W1.heap.size + 1) W1.heap.size (W3.heap.size + 1) W3.heap.size 0 0 N noVotes noVotes 50 #[.slice AF nF cF, .slice AG nG cG] :=
    ⟨HC3.out.below HB4.out, HC4.out, (HK1.out.below HB3.out HK1.out.lt).below HB4.out (HK1.out.below HB3.out HK1.out.lt).lt, (HB1.out.trans (HB3.out.mono HB1.out.size)).trans (HB4.out.mono (HB1.out.trans (HB3.out.mono HB1.out.size)).size), by
      have h1 := HC3.out.ltB
      have h2 := HK1.out.lt
      have h3 := HB1.out.size
      refine ⟨?_, ?_, ?_, ?_, ?_, ?_, ?_⟩ <;> omega⟩
  obtain ⟨B1, hB1⟩ : ∃ b, W1.heap.size + 1 = b := ⟨_, rfl⟩
  obtain ⟨B2, hB2⟩ : ∃ b, W3.heap.size + 1 = b := ⟨_, rfl⟩
  obtain ⟨M1, hM1⟩ : ∃ b, W1.heap.size = b := ⟨_, rfl⟩
  obtain ⟨M2, hM2⟩ : ∃ b, W3.heap.size = b := ⟨_, rfl⟩
  rw [hB1, hB2] at hT ⊢
  rw [hM1, hM2] at hT
  have HT := Lib.hid hT
  clear hT hB1 hB2 hM1 hM2 HC3 HC4 HB3 HB4 HK0 HB0 HK1 HB1 HF HNW
  go_loopw [12] (fun i wr => ∃ k : Nat, k ≤ N ∧ i = .int .i64 (k : Int) ∧ TwoC w wr w.heap.size B1 M1 B2 M2 k k N (oneV N f F H k) (oneV N f G H k) 50 #[.slice AF nF cF, .slice AG nG cG]) (fun i _ => N - (intOf i).toNat)
  case atStart => exact ⟨0, Nat.zero_le _, rfl, HT.out⟩
  case round =>
    obtain ⟨k, hk, rfl, hc⟩ := hrel
    have HTK := Lib.hid hc
    have c0 : wr.cell? ⟨w.heap.size, 0, none⟩ = some (.slice AF nF cF) := by rw [hc.box.cell]; rfl
    have c1 : wr.cell? ⟨w.heap.size, 1, none⟩ = some (.slice AG nG cG) := by rw [hc.box.cell]; rfl
    clear hc
    by_cases hlt : k < N
    · have hkn : (k : Int) < (N : Int) := by omega
      have hk0 : (0 : Int) ≤ (k : Int) := by omega
      by_cases hf : k < f
      · have hfi : (k : Int) < (f : Int) := by omega
        have hE : oneV N f F H (k + 1) = if k < F.length then putT N (oneV N f F H k) 0 0 k (F.getD k []) else oneV N f F H k := by
          show (if k < f then _ else _ : Vt) = _
          rw [if_pos hf]
        have hE2 : oneV N f G H (k + 1) = if k < G.length then putT N (oneV N f G H k) 0 0 k (G.getD k []) else oneV N f G H k := by
          show (if k < f then _ else _ : Vt) = _
          rw [if_pos hf]
        rw [HLN.out.2.1] at hE
        rw [HLN.out.2.2.1] at hE2
        by_cases h1 : k < nF
        · have h1i : (k : Int) < (nF : Int) := by omega
          rw [if_pos h1] at hE
          by_cases h2 : k < nG
          · have h2i : (k : Int) < (nG : Int) := by omega
            rw [if_pos h2] at hE2
            obtain ⟨ad1, c1, he1, hid1, hld1⟩ := HRF.out.here (k := k) (by rw [HLN.out.2.1]; exact h1)
            rw [HLN.out.2.1] at he1
            obtain ⟨rfl, -, rfl⟩ := Value.slice.inj he1
            generalize F.getD k [] = x1 at hid1 hld1 hE
            have HA1 := Lib.hid (And.intro hid1 hld1)
            clear hid1 hld1
            obtain ⟨ad2, c2, he2, hid2, hld2⟩ := HRG.out.here (k := k) (by rw [HLN.out.2.2.1]; exact h2)
            rw [HLN.out.2.2.1] at he2
            obtain ⟨rfl, -, rfl⟩ := Value.slice.inj he2
            generalize G.getD k [] = x2 at hid2 hld2 hE2
            have HA2 := Lib.hid (And.intro hid2 hld2)
            clear hid2 hld2
            have HE : Hid (_ ∧ _) := Lib.hid (And.intro hE hE2)
            clear hE hE2
            go_upto_region 16 with (first
              | (guard_target = wpList _ _ _ (Oper.mk _ (.load 24 _) _ _ _ _ :: _) _ _; refine wpList_load_idR (by rfl) _ rfl (ad1.add (k * 32)) x1 rfl (HA1.out.2 _ HTK.out.below) ?_)
              | (go_at_call 21; refine (put_any HTK.out.ca 0 0 (k : Int) _ HA1.out.1 (wfi_small (by decide) (by decide)) (wfi_small (by decide) (by decide)) (wfi_small (by omega) (by omega)) (by unfold maxLen; omega)).mono ?_; rintro e W5 ⟨rfl, hc, hg⟩; generalize putCode _ _ _ _ _ _ = pc1; have HT5 := Lib.hid (HTK.out.putA hc hg); have c0 : W5.cell? ⟨w.heap.size, 0, none⟩ = some _ := (by rw [HT5.out.box.cell]; rfl); have c1 : W5.cell? ⟨w.heap.size, 1, none⟩ = some _ := (by rw [HT5.out.box.cell]; rfl); clear hc hg))
            go_wp2_with (first
              | (guard_target = wpList _ _ _ (Oper.mk _ (.load 24 _) _ _ _ _ :: _) _ _; refine wpList_load_idR (by rfl) _ rfl (ad2.add (k * 32)) x2 rfl (HA2.out.2 _ HT5.out.below) ?_)
              | (go_at_call 21; refine (put_any HT5.out.cb 0 0 (k : Int) _ HA2.out.1 (wfi_small (by decide) (by decide)) (wfi_small (by decide) (by decide)) (wfi_small (by omega) (by omega)) (by unfold maxLen; omega)).mono ?_; rintro e W6 ⟨rfl, hc, hg⟩; generalize putCode _ _ _ _ _ _ = pc2; have HT6 := Lib.hid (HT5.out.putB hc hg); have c0 : W6.cell? ⟨w.heap.size, 0, none⟩ = some _ := (by rw [HT6.out.box.cell]; rfl); have c1 : W6.cell? ⟨w.heap.size, 1, none⟩ = some _ := (by rw [HT6.out.box.cell]; rfl); clear hc hg))
            go_roundw
            case rel => exact ⟨k + 1, by omega, by go_num, by rw [HE.out.1, HE.out.2]; exact HT6.out.more (Nat.le_refl _) (Nat.le_refl _)⟩
            case measure => simp [intOf]; omega
          · have h2i : ¬ (k : Int) < (nG : Int) := by omega
            rw [if_neg h2] at hE2
            obtain ⟨ad1, c1, he1, hid1, hld1⟩ := HRF.out.here (k := k) (by rw [HLN.out.2.1]; exact h1)
            rw [HLN.out.2.1] at he1
            obtain ⟨rfl, -, rfl⟩ := Value.slice.inj he1
            generalize F.getD k [] = x1 at hid1 hld1 hE
            have HA1 := Lib.hid (And.intro hid1 hld1)
            clear hid1 hld1
            have HE : Hid (_ ∧ _) := Lib.hid (And.intro hE hE2)
            clear hE hE2
            go_wp2_with (first
              | (guard_target = wpList _ _ _ (Oper.mk _ (.load 24 _) _ _ _ _ :: _) _ _; refine wpList_load_idR (by rfl) _ rfl (ad1.add (k * 32)) x1 rfl (HA1.out.2 _ HTK.out.below) ?_)
              | (go_at_call 21; refine (put_any HTK.out.ca 0 0 (k : Int) _ HA1.out.1 (wfi_small (by decide) (by decide)) (wfi_small (by decide) (by decide)) (wfi_small (by omega) (by omega)) (by unfold maxLen; omega)).mono ?_; rintro e W5 ⟨rfl, hc, hg⟩; generalize putCode _ _ _ _ _ _ = pc1; have HT5 := Lib.hid (HTK.out.putA hc hg); have c0 : W5.cell? ⟨w.heap.size, 0, none⟩ = some _ := (by rw [HT5.out.box.cell]; rfl); have c1 : W5.cell? ⟨w.heap.size, 1, none⟩ = some _ := (by rw [HT5.out.box.cell]; rfl); clear hc hg))
            go_roundw
            case rel => exact ⟨k + 1, by omega, by go_num, by rw [HE.out.1, HE.out.2]; exact HT5.out.more (Nat.le_refl _) (Nat.le_succ _)⟩
            case measure => simp [intOf]; omega
        · have h1i : ¬ (k : Int) < (nF : Int) := by omega
          rw [if_neg h1] at hE
          by_cases h2 : k < nG
          · have h2i : (k : Int) < (nG : Int) := by omega
            rw [if_pos h2] at hE2
            obtain ⟨ad2, c2, he2, hid2, hld2⟩ := HRG.out.here (k := k) (by rw [HLN.out.2.2.1]; exact h2)
            rw [HLN.out.2.2.1] at he2
            obtain ⟨rfl, -, rfl⟩ := Value.slice.inj he2
            generalize G.getD k [] = x2 at hid2 hld2 hE2
            have HA2 := Lib.hid (And.intro hid2 hld2)
            clear hid2 hld2
            have HE : Hid (_ ∧ _) := Lib.hid (And.intro hE hE2)
            clear hE hE2
            go_wp2_with (first
              | (guard_target = wpList _ _ _ (Oper.mk _ (.load 24 _) _ _ _ _ :: _) _ _; refine wpList_load_idR (by rfl) _ rfl (ad2.add (k * 32)) x2 rfl (HA2.out.2 _ HTK.out.below) ?_)
              | (go_at_call 21; refine (put_any HTK.out.cb 0 0 (k : Int) _ HA2.out.1 (wfi_small (by decide) (by decide)) (wfi_small (by decide) (by decide)) (wfi_small (by omega) (by omega)) (by unfold maxLen; omega)).mono ?_; rintro e W5 ⟨rfl, hc, hg⟩; generalize putCode _ _ _ _ _ _ = pc1; have HT5 := Lib.hid (HTK.out.putB hc hg); have c0 : W5.cell? ⟨w.heap.size, 0, none⟩ = some _ := (by rw [HT5.out.box.cell]; rfl); have c1 : W5.cell? ⟨w.heap.size, 1, none⟩ = some _ := (by rw [HT5.out.box.cell]; rfl); clear hc hg))
            go_roundw
            case rel => exact ⟨k + 1, by omega, by go_num, by rw [HE.out.1, HE.out.2]; exact HT5.out.more (Nat.le_succ _) (Nat.le_refl _)⟩
            case measure => simp [intOf]; omega
          · have h2i : ¬ (k : Int) < (nG : Int) := by omega
            rw [if_neg h2] at hE2
            have HE : Hid (_ ∧ _) := Lib.hid (And.intro hE hE2)
            clear hE hE2
            go_wp2_with fail
            go_roundw
            case rel => exact ⟨k + 1, by omega, by go_num, by rw [HE.out.1, HE.out.2]; exact HTK.out.more (Nat.le_succ _) (Nat.le_succ _)⟩
            case measure => simp [intOf]; omega
      · have hfi : ¬ (k : Int) < (f : Int) := by omega
        have hE : oneV N f F H (k + 1) = if k - f < H.length then putT N (oneV N f F H k) 0 0 k (H.getD (k - f) []) else oneV N f F H k := by
          show (if k < f then _ else _ : Vt) = _
          rw [if_neg hf]
        have hE2 : oneV N f G H (k + 1) = if k - f < H.length then putT N (oneV N f G H k) 0 0 k (H.getD (k - f) []) else oneV N f G H k := by
          show (if k < f then _ else _ : Vt) = _
          rw [if_neg hf]
        rw [HLN.out.1] at hE hE2
        obtain ⟨j, hj⟩ : ∃ j, k - f = j := ⟨_, rfl⟩
        rw [hj] at hE hE2
        have hsub : (k : Int) - (f : Int) = (j : Int) := by omega
        have hj0 : (0 : Int) ≤ (j : Int) := by omega
        by_cases h3 : j < nH
        · have h3i : (j : Int) < (nH : Int) := by omega
          rw [if_pos h3] at hE hE2
          obtain ⟨ad3, c3, he3, hid3, hld3⟩ := HRH.out.here (k := j) (by rw [HLN.out.1]; exact h3)
          rw [HLN.out.1] at he3
          obtain ⟨rfl, -, rfl⟩ := Value.slice.inj he3
          generalize H.getD j [] = x3 at hid3 hld3 hE hE2
          have HA3 := Lib.hid (And.intro hid3 hld3)
          clear hid3 hld3
          have HE : Hid (_ ∧ _) := Lib.hid (And.intro hE hE2)
          clear hE hE2
          go_upto_region 20 with (first
            | (guard_target = wpList _ _ _ (Oper.mk _ (.load 24 _) _ _ _ _ :: _) _ _; refine wpList_load_idR (by rfl) _ rfl (ad3.add (j * 32)) x3 rfl (HA3.out.2 _ HTK.out.below) ?_)
            | (go_at_call 21; refine (put_any HTK.out.ca 0 0 (k : Int) _ HA3.out.1 (wfi_small (by decide) (by decide)) (wfi_small (by decide) (by decide)) (wfi_small (by omega) (by omega)) (by unfold maxLen; omega)).mono ?_; rintro e W5 ⟨rfl, hc, hg⟩; generalize putCode _ _ _ _ _ _ = pc1; have HT5 := Lib.hid (HTK.out.putA hc hg); have c0 : W5.cell? ⟨w.heap.size, 0, none⟩ = some _ := (by rw [HT5.out.box.cell]; rfl); have c1 : W5.cell? ⟨w.heap.size, 1, none⟩ = some _ := (by rw [HT5.out.box.cell]; rfl); clear hc hg))
          go_wp2_with (first
            | (guard_target = wpList _ _ _ (Oper.mk _ (.load 24 _) _ _ _ _ :: _) _ _; refine wpList_load_idR (by rfl) _ rfl (ad3.add (j * 32)) x3 rfl (HA3.out.2 _ HT5.out.below) ?_)
            | (go_at_call 21; refine (put_any HT5.out.cb 0 0 (k : Int) _ HA3.out.1 (wfi_small (by decide) (by decide)) (wfi_small (by decide) (by decide)) (wfi_small (by omega) (by omega)) (by unfold maxLen; omega)).mono ?_; rintro e W6 ⟨rfl, hc, hg⟩; generalize putCode _ _ _ _ _ _ = pc2; have HT6 := Lib.hid (HT5.out.putB hc hg); have c0 : W6.cell? ⟨w.heap.size, 0, none⟩ = some _ := (by rw [HT6.out.box.cell]; rfl); have c1 : W6.cell? ⟨w.heap.size, 1, none⟩ = some _ := (by rw [HT6.out.box.cell]; rfl); clear hc hg))
          go_roundw
          case rel => exact ⟨k + 1, by omega, by go_num, by rw [HE.out.1, HE.out.2]; exact HT6.out.more (Nat.le_refl _) (Nat.le_refl _)⟩
          case measure => simp [intOf]; omega
        · have h3i : ¬ (j : Int) < (nH : Int) := by omega
          rw [if_neg h3] at hE hE2
          have HE : Hid (_ ∧ _) := Lib.hid (And.intro hE hE2)
          clear hE hE2
          go_wp2_with fail
          go_roundw
          case rel => exact ⟨k + 1, by omega, by go_num, by rw [HE.out.1, HE.out.2]; exact HTK.out.more (Nat.le_succ _) (Nat.le_succ _)⟩
          case measure => simp [intOf]; omega
    · obtain rfl : k = N := by omega
      have hkn : ¬ (k : Int) < (k : Int) := by omega
      have HN4 : Hid (k ≤ 1000) := Lib.hid (by omega)
      have HS1 := Lib.hid fun W (h : CountAt W B1 M1 k k (oneV k f F H k)) => sure_any (NN := k) h 0 0 (wfi_small (by decide) (by decide)) (wfi_small (by decide) (by decide)) HN4.out
      have HS2 := Lib.hid fun W (h : CountAt W B2 M2 k k (oneV k f G H k)) => sure_any (NN := k) h 0 0 (wfi_small (by decide) (by decide)) (wfi_small (by decide) (by decide)) HN4.out
      have HOO := Lib.hid fun x y => one_sure (f := f) HLN.out.2.2.2 F G H (x := x) (y := y)
      have HO1 : Hid (∀ x, sureO k (oneV k f F H k) 0 0 = some x → IdOk x) := Lib.hid fun x hx => by
        unfold sureO at hx
        rw [Option.map_eq_some_iff] at hx
        obtain ⟨p, hp, rfl⟩ := hx
        exact (HTK.out.ca.ids _ _ _ _ (mem_castL.1 (List.mem_of_find?_eq_some hp)).2).1
      have HO2 : Hid (∀ x, sureO k (oneV k f G H k) 0 0 = some x → IdOk x) := Lib.hid fun x hx => by
        unfold sureO at hx
        rw [Option.map_eq_some_iff] at hx
        obtain ⟨p, hp, rfl⟩ := hx
        exact (HTK.out.cb.ids _ _ _ _ (mem_castL.1 (List.mem_of_find?_eq_some hp)).2).1
      generalize sureO k (oneV k f F H k) 0 0 = o1 at HS1 HOO HO1
      generalize sureO k (oneV k f G H k) 0 0 = o2 at HS2 HOO HO2
      clear c0 c1
      cases o1 with
      | none =>
        simp only [Option.getD_none, Option.isSome_none] at HS1
        clear HOO HO1
        obtain ⟨x, hx, hxo⟩ : ∃ x, o2.getD zeroId = x ∧ IdOk x := ⟨_, rfl, by cases o2 with | none => exact zeroId_ok | some y => exact HO2.out y rfl⟩
        obtain ⟨b, hb⟩ : ∃ b, o2.isSome = b := ⟨_, rfl⟩
        rw [hx, hb] at HS2
        have HX := Lib.hid hxo
        clear hx hb hxo HO2
        go_upto_region 22 with (first
          | (go_at_call 22; refine (HS1.out _ HTK.out.ca).mono ?_; rintro e W5 ⟨rfl, hb5⟩; have HB5 := Lib.hid hb5; clear hb5)
          | (guard_target = wpList _ _ _ (Oper.mk _ (.store 24 _ _) _ _ _ _ :: _) _ _; refine wpList_store_idv rfl _ _ rfl W5.heap.size zeroId rfl rfl zeroId_ok 24 _ (Blk.newAt _ _ rfl rfl) rfl ?_; intro W6 hS hz hb hk; have HK6 := Lib.hid hS; have HB6 := Lib.hid (HB5.out.trans ((((Below.refl _ W5).alloc (Nat.le_refl _) _).trans hb).mono HB5.out.size)); clear hS hz hb hk))
        go_wp2_with (first
          | (go_at_call 22; refine (HS2.out _ (HTK.out.cb.below HB6.out)).mono ?_; rintro e W7 ⟨rfl, hb7⟩; have HB7 := Lib.hid (HB6.out.trans (hb7.mono HB6.out.size)); have HK7 := Lib.hid (HK6.out.below hb7 HK6.out.lt); clear hb7)
          | (guard_target = wpList _ _ _ (Oper.mk _ (.store 24 _ _) _ _ _ _ :: _) _ _; refine wpList_store_idv rfl _ _ rfl W7.heap.size x rfl rfl HX.out 24 _ (Blk.newAt _ _ rfl rfl) rfl ?_; intro W8 hS hz hb hk; have HK8 := Lib.hid hS; have HB8 := Lib.hid (HB7.out.trans ((((Below.refl _ W7).alloc (Nat.le_refl _) _).trans hb).mono HB7.out.size)); have HK9 := Lib.hid ((hk _ (by have := HK7.out.lt; omega)).trans (HK7.out.alloc _)); clear hS hz hb hk))
        go_ret
        exact ⟨rfl, HTK.out.below.trans (HB8.out.mono HTK.out.below.size)⟩
      | some x =>
        have HX := Lib.hid (HO1.out x rfl)
        cases o2 with
        | none =>
          simp only [Option.getD_none, Option.isSome_none] at HS2
          simp only [Option.getD_some, Option.isSome_some] at HS1
          clear HOO HO1 HO2
          go_upto_region 22 with (first
            | (go_at_call 22; refine (HS1.out _ HTK.out.ca).mono ?_; rintro e W5 ⟨rfl, hb5⟩; have HB5 := Lib.hid hb5; clear hb5)
            | (guard_target = wpList _ _ _ (Oper.mk _ (.store 24 _ _) _ _ _ _ :: _) _ _; refine wpList_store_idv rfl _ _ rfl W5.heap.size x rfl rfl HX.out 24 _ (Blk.newAt _ _ rfl rfl) rfl ?_; intro W6 hS hz hb hk; have HK6 := Lib.hid hS; have HB6 := Lib.hid (HB5.out.trans ((((Below.refl _ W5).alloc (Nat.le_refl _) _).trans hb).mono HB5.out.size)); clear hS hz hb hk))
          go_wp2_with (first
            | (go_at_call 22; refine (HS2.out _ (HTK.out.cb.below HB6.out)).mono ?_; rintro e W7 ⟨rfl, hb7⟩; have HB7 := Lib.hid (HB6.out.trans (hb7.mono HB6.out.size)); have HK7 := Lib.hid (HK6.out.below hb7 HK6.out.lt); clear hb7)
            | (guard_target = wpList _ _ _ (Oper.mk _ (.store 24 _ _) _ _ _ _ :: _) _ _; refine wpList_store_idv rfl _ _ rfl W7.heap.size zeroId rfl rfl zeroId_ok 24 _ (Blk.newAt _ _ rfl rfl) rfl ?_; intro W8 hS hz hb hk; have HK8 := Lib.hid hS; have HB8 := Lib.hid (HB7.out.trans ((((Below.refl _ W7).alloc (Nat.le_refl _) _).trans hb).mono HB7.out.size)); have HK9 := Lib.hid ((hk _ (by have := HK7.out.lt; omega)).trans (HK7.out.alloc _)); clear hS hz hb hk))
          go_ret
          exact ⟨rfl, HTK.out.below.trans (HB8.out.mono HTK.out.below.size)⟩
        | some y =>
          have hxy : x = y := HOO.out x y rfl rfl
          subst hxy
          simp only [Option.getD_some, Option.isSome_some] at HS1 HS2
          have hee := fun W => eql_idv HX.out HX.out W
          have hge := fun x' y' W => guard_idv x' y' x x W
          simp only [beq_self_eq_true] at hee
          clear HOO HO1 HO2
          go_upto_region 22 with (first
            | (go_at_call 22; refine (HS1.out _ HTK.out.ca).mono ?_; rintro e W5 ⟨rfl, hb5⟩; have HB5 := Lib.hid hb5; clear hb5)
            | (guard_target = wpList _ _ _ (Oper.mk _ (.store 24 _ _) _ _ _ _ :: _) _ _; refine wpList_store_idv rfl _ _ rfl W5.heap.size x rfl rfl HX.out 24 _ (Blk.newAt _ _ rfl rfl) rfl ?_; intro W6 hS hz hb hk; have HK6 := Lib.hid hS; have HB6 := Lib.hid (HB5.out.trans ((((Below.refl _ W5).alloc (Nat.le_refl _) _).trans hb).mono HB5.out.size)); clear hS hz hb hk))
          go_wp2_with (first
            | (go_at_call 22; refine (HS2.out _ (HTK.out.cb.below HB6.out)).mono ?_; rintro e W7 ⟨rfl, hb7⟩; have HB7 := Lib.hid (HB6.out.trans (hb7.mono HB6.out.size)); have HK7 := Lib.hid (HK6.out.below hb7 HK6.out.lt); clear hb7)
            | (guard_target = wpList _ _ _ (Oper.mk _ (.store 24 _ _) _ _ _ _ :: _) _ _; refine wpList_store_idv rfl _ _ rfl W7.heap.size x rfl rfl HX.out 24 _ (Blk.newAt _ _ rfl rfl) rfl ?_; intro W8 hS hz hb hk; have HK8 := Lib.hid hS; have HB8 := Lib.hid (HB7.out.trans ((((Below.refl _ W7).alloc (Nat.le_refl _) _).trans hb).mono HB7.out.size)); have HK9 := Lib.hid ((hk _ (by have := HK7.out.lt; omega)).trans (HK7.out.alloc _)); clear hS hz hb hk)
            | (guard_target = wpList _ _ _ (Oper.mk (some 116) (.load 24 _) _ _ _ _ :: _) _ _; refine wpList_load_idvG (by rfl) _ rfl W5.heap.size x rfl HX.out 24 HK9.out ?_)
            | (guard_target = wpList _ _ _ (Oper.mk (some 117) (.load 24 _) _ _ _ _ :: _) _ _; refine wpList_load_idvG (by rfl) _ rfl W7.heap.size x rfl HX.out 24 HK8.out ?_))
          go_ret
          exact ⟨rfl, HTK.out.below.trans (HB8.out.mono HTK.out.below.size)⟩
theorem countone_law (n : Int) (vH : Value) (H : List (List UInt8)) (v1 v2 : Value) (F G : List (List UInt8)) (w : World) (rH : RdL w w.heap.size vH H) (rF : RdL w w.heap.size v1 F) (rG : RdL w w.heap.size v2 G) :
    Calls Try.prog 4 #[.int .i64 n, vH, .agg #[v1, v2]] w fun e w' => e = .returned (.bool true) ∧ Below w.heap.size w w' := by
  by_cases hn : faults n < 0
  · exact countone_low n hn vH v1 v2 w
  · obtain ⟨N, rfl⟩ := Int.eq_ofNat_of_zero_le (show 0 ≤ n by rcases faults_cases (n := n) (by omega) with ⟨h, _⟩ | ⟨h, _⟩ | ⟨h, _⟩ <;> omega)
    obtain ⟨f, hf⟩ := Int.eq_ofNat_of_zero_le (show 0 ≤ faults (N : Int) by omega)
    exact countone_high N f hf (by rcases faults_cases (n := (N : Int)) (by omega) with ⟨h, _⟩ | ⟨h, _⟩ | ⟨h, _⟩ <;> omega) vH v1 v2 H F G w rH rF rG
end Go.Proofs.Ytogcfkccjddfhaa
