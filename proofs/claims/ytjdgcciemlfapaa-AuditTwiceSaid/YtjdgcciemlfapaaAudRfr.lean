/-
  Layer 22: the document's Foreign: the first entry that wasn't handed in. In whatever memory. No condition.
-/
import Derived.Test.YtjdgcciemlfapaaQAu
namespace Go.Proofs.Ytjdgcciemlfapaa
open Go Go.RowKit Go.Shelf Go.Maps
attribute [local go_sem] Oper.semAt_some

set_option maxRecDepth 100000 in
set_option maxHeartbeats 16000000 in
theorem refForeign_any (A A2 : Option Addr) (c c2 : Nat) (l h : List (List UInt8)) (w : World) (hr : RdP w (fun b => b < w.heap.size) A l) (hr2 : RdP w (fun b => b < w.heap.size) A2 h) (hl : l.length ≤ 1000) (hh : h.length ≤ 1000) :
    Calls Try.prog 17 #[.slice A l.length c, .slice A2 h.length c2] w fun e w' => e = .returned (.tuple #[.int .i64 (forB l h).1, .bool (forB l h).2]) ∧ Below w.heap.size w w' := by
  have HR := Lib.hid hr
  have HR2 := Lib.hid hr2
  obtain ⟨n, hn⟩ : ∃ z, l.length = z := ⟨_, rfl⟩
  obtain ⟨m, hm⟩ : ∃ z, h.length = z := ⟨_, rfl⟩
  rw [hn] at hl
  rw [hm] at hh
  rw [hn, hm]
  have HN := Lib.hid (And.intro hn hm)
  clear hr hr2 hn hm
  obtain ⟨res, hres⟩ : ∃ z, forB l h = z := ⟨_, rfl⟩
  rw [hres]
  have HRES := Lib.hid hres
  clear hres
  go_enter Try.func17, Try.ntmps17
  go_wp2_with fail
  go_loopw [6] (fun i wr => ∃ a : Nat, a ≤ n ∧ i = .int .i64 (a : Int) ∧ (∀ j, j < a → l.getD j [] ∈ h) ∧ Below w.heap.size w wr) (fun i _ => n - (intOf i).toNat)
  case atStart => exact ⟨0, Nat.zero_le _, rfl, fun j hj => by omega, Below.refl _ _⟩
  case round =>
    obtain ⟨a, ha, rfl, hall, hba⟩ := hrel
    obtain ⟨wa, hwa⟩ : ∃ z, z = wr := ⟨_, rfl⟩
    subst hwa
    have HALL := Lib.hid hall
    have HBA := Lib.hid hba
    clear hall hba
    by_cases han : a < n
    · have hai : (a : Int) < (n : Int) := by omega
      obtain ⟨ad, vx, rfl, hadl, hcx, hrx⟩ := HR.out a (by rw [HN.out.1]; exact han)
      obtain ⟨x, hx⟩ : ∃ z, l.getD a [] = z := ⟨_, rfl⟩
      rw [hx] at hrx
      obtain ⟨Ax, cx, rfl⟩ : ∃ A' c', vx = .slice A' x.length c' := by
        obtain ⟨A', c', e, _⟩ := hrx
        exact ⟨A', c', e⟩
      obtain ⟨xn, hxn⟩ : ∃ z, x.length = z := ⟨_, rfl⟩
      rw [hxn] at hcx hrx
      have HCX := Lib.hid (And.intro hadl (And.intro hcx hrx))
      have HX0 := Lib.hid (And.intro hx hxn)
      clear hadl hcx hrx hx hxn
      go_wp2_with fail
      go_loopw [7, 8] (fun s k wr => ∃ (b : Nat) (f : Bool), b ≤ m ∧ k = .int .i64 (b : Int) ∧ s = .bool f ∧ (f = true ↔ x ∈ h.take b) ∧ Below w.heap.size w wr) (fun _ k _ => m - (intOf k).toNat)
      case atStart => exact ⟨0, false, Nat.zero_le _, rfl, rfl, by simp, HBA.out⟩
      case round =>
        obtain ⟨b, f, hbm0, rfl, rfl, hf, hbq⟩ := hrel
        obtain ⟨wq, hwq⟩ : ∃ z, z = wr := ⟨_, rfl⟩
        subst hwq
        have HBQ := Lib.hid hbq
        have HF := Lib.hid hf
        clear hf hbq
        by_cases hbm : b < m
        · have hbi : (b : Int) < (m : Int) := by omega
          have hb1 : ¬ m ≤ b := by omega
          have ha1 : ¬ n ≤ a := by omega
          obtain ⟨ad2, vy, rfl, hadl2, hcy, hry⟩ := HR2.out b (by rw [HN.out.2]; exact hbm)
          obtain ⟨y, hy⟩ : ∃ z, h.getD b [] = z := ⟨_, rfl⟩
          rw [hy] at hry
          obtain ⟨Ay, cy, rfl⟩ : ∃ A' c', vy = .slice A' y.length c' := by
            obtain ⟨A', c', e, _⟩ := hry
            exact ⟨A', c', e⟩
          have hyb : h[b]? = some y := by
            have h1 : b < h.length := by rw [HN.out.2]; exact hbm
            rw [List.getElem?_eq_getElem h1, ← hy, List.getD_eq_getElem?_getD, List.getElem?_eq_getElem h1]
            rfl
          have htk : h.take (b + 1) = h.take b ++ [y] := by
            have h1 : b < h.length := by rw [HN.out.2]; exact hbm
            rw [List.take_succ_eq_append_getElem h1]
            rw [List.getElem?_eq_getElem h1, Option.some.injEq] at hyb
            rw [hyb]
          obtain ⟨yn, hyn⟩ : ∃ z, y.length = z := ⟨_, rfl⟩
          rw [hyn] at hcy hry
          have hbX : Below wq.heap.size wq wq.drew := (Below.refl _ _).drew
          have HXA : Hid (∀ W, Below wq.heap.size wq W → W.cell? (ad.add a) = some (.slice Ax xn cx)) := Lib.hid fun W hb => ((HBQ.out.trans (hb.mono HBQ.out.size)).cell (p := ad.add a) (by rw [block_add]; exact HCX.out.1)).trans HCX.out.2.1
          have HXB : Hid (∀ W, Below wq.heap.size wq W → W.cell? (ad2.add b) = some (.slice Ay yn cy)) := Lib.hid fun W hb => ((HBQ.out.trans (hb.mono HBQ.out.size)).cell (p := ad2.add b) (by rw [block_add]; exact hadl2)).trans hcy
          have HSA : Hid (∀ W, Below wq.heap.size wq W → (convert 24 9 (.slice Ax xn cx)).run Try.prog W = .ok (.string ⟨x.toArray⟩) W) := Lib.hid fun W hb => str_rd (HCX.out.2.2.kept fun i z hi h => ((HBQ.out.trans (hb.mono HBQ.out.size)).cell (p := i) hi).trans h)
          have HSB : Hid (∀ W, Below wq.heap.size wq W → (convert 24 9 (.slice Ay yn cy)).run Try.prog W = .ok (.string ⟨y.toArray⟩) W) := Lib.hid fun W hb => str_rd (hry.kept fun i z hi h => ((HBQ.out.trans (hb.mono HBQ.out.size)).cell (p := i) hi).trans h)
          obtain ⟨β, hβ⟩ : ∃ β, (y == x) = β := ⟨_, rfl⟩
          have HEQ : Hid (∀ w', (binOp .eql 9 (.string ⟨y.toArray⟩) (.string ⟨x.toArray⟩)).run Try.prog w' = .ok (.bool β) w') := Lib.hid fun w' => by rw [← hβ]; exact eql_strA y x w'
          cases f with
          | true =>
            have HT : Hid ((true = true) ↔ x ∈ h.take (b + 1)) := Lib.hid ⟨fun _ => by rw [htk]; exact List.mem_append_left _ (HF.out.1 rfl), fun _ => rfl⟩
            clear hadl2 hcy hry hy hyb htk hyn hβ
            go_upto_region 8 with fail
            refine wp_region_held_drew (S := fun W' => Below wq.heap.size wq W') (by kernel_rfl) ?_ (fun hHeld => ?_)
            · exact hbX
            refine wpAnyH_take (i := 0) (oi := ⟨some 21, _, _, _, _, _⟩) (v := ?_) rfl (by kernel_rfl) (by kernel_rfl) (by kernel_rfl) (fun _ _ _ h => h) (Or.inl ⟨by rfl, ?_⟩) (by assumption) ?_
            rotate_left
            · intro w hSw; (try dsimp only at hSw); go_simp; try (with_reducible rfl)
            rotate_left 0
            try simp only [Act.put, List.setIfInBounds_toArray, List.set_cons_zero, List.set_cons_succ]
            refine wpAnyH_take (i := 1) (oi := ⟨some 22, _, _, _, _, _⟩) (v := ?_) rfl (by kernel_rfl) (by kernel_rfl) (by kernel_rfl) (fun _ _ _ h => h) (Or.inl ⟨by rfl, ?_⟩) (by assumption) ?_
            rotate_left
            · intro w hSw; (try dsimp only at hSw); go_simp; try (with_reducible rfl)
            rotate_left 0
            try simp only [Act.put, List.setIfInBounds_toArray, List.set_cons_zero, List.set_cons_succ]
            refine wpAnyH_take (i := 2) (oi := ⟨some 23, _, _, _, _, _⟩) (v := undef) rfl (by kernel_rfl) (by kernel_rfl) (by kernel_rfl) (fun _ _ _ h => h) (Or.inr ⟨by rfl, rfl⟩) (by assumption) ?_
            try simp only [Act.put, List.setIfInBounds_toArray, List.set_cons_zero, List.set_cons_succ]
            refine wpAnyH_take (i := 3) (oi := ⟨some 24, _, _, _, _, _⟩) (v := undef) rfl (by kernel_rfl) (by kernel_rfl) (by kernel_rfl) (fun _ _ _ h => h) (Or.inr ⟨by rfl, rfl⟩) (by assumption) ?_
            try simp only [Act.put, List.setIfInBounds_toArray, List.set_cons_zero, List.set_cons_succ]
            refine wpAnyH_take (i := 4) (oi := ⟨some 25, _, _, _, _, _⟩) (v := undef) rfl (by kernel_rfl) (by kernel_rfl) (by kernel_rfl) (fun _ _ _ h => h) (Or.inr ⟨by rfl, rfl⟩) (by assumption) ?_
            try simp only [Act.put, List.setIfInBounds_toArray, List.set_cons_zero, List.set_cons_succ]
            refine wpAnyH_take (i := 5) (oi := ⟨some 26, _, _, _, _, _⟩) (v := undef) rfl (by kernel_rfl) (by kernel_rfl) (by kernel_rfl) (fun _ _ _ h => h) (Or.inr ⟨by rfl, rfl⟩) (by assumption) ?_
            try simp only [Act.put, List.setIfInBounds_toArray, List.set_cons_zero, List.set_cons_succ]
            refine wpAnyH_take (i := 6) (oi := ⟨some 27, _, _, _, _, _⟩) (v := undef) rfl (by kernel_rfl) (by kernel_rfl) (by kernel_rfl) (fun _ _ _ h => h) (Or.inr ⟨by rfl, rfl⟩) (by assumption) ?_
            try simp only [Act.put, List.setIfInBounds_toArray, List.set_cons_zero, List.set_cons_succ]
            refine wpAnyH_take (i := 7) (oi := ⟨some 28, _, _, _, _, _⟩) (v := undef) rfl (by kernel_rfl) (by kernel_rfl) (by kernel_rfl) (fun _ _ _ h => h) (Or.inr ⟨by rfl, rfl⟩) (by assumption) ?_
            try simp only [Act.put, List.setIfInBounds_toArray, List.set_cons_zero, List.set_cons_succ]
            refine wpAnyH_take (i := 8) (oi := ⟨some 29, _, _, _, _, _⟩) (v := undef) rfl (by kernel_rfl) (by kernel_rfl) (by kernel_rfl) (fun _ _ _ h => h) (Or.inr ⟨by rfl, rfl⟩) (by assumption) ?_
            try simp only [Act.put, List.setIfInBounds_toArray, List.set_cons_zero, List.set_cons_succ]
            refine wpAnyH_take (i := 9) (oi := ⟨some 30, _, _, _, _, _⟩) (v := undef) rfl (by kernel_rfl) (by kernel_rfl) (by kernel_rfl) (fun _ _ _ h => h) (Or.inr ⟨by rfl, rfl⟩) (by assumption) ?_
            try simp only [Act.put, List.setIfInBounds_toArray, List.set_cons_zero, List.set_cons_succ]
            refine wpAnyH_take (i := 10) (oi := ⟨some 31, _, _, _, _, _⟩) (v := undef) rfl (by kernel_rfl) (by kernel_rfl) (by kernel_rfl) (fun _ _ _ h => h) (Or.inr ⟨by rfl, rfl⟩) (by assumption) ?_
            try simp only [Act.put, List.setIfInBounds_toArray, List.set_cons_zero, List.set_cons_succ]
            refine wpAnyH_take (i := 11) (oi := ⟨some 32, _, _, _, _, _⟩) (v := undef) rfl (by kernel_rfl) (by kernel_rfl) (by kernel_rfl) (fun _ _ _ h => h) (Or.inr ⟨by rfl, rfl⟩) (by assumption) ?_
            try simp only [Act.put, List.setIfInBounds_toArray, List.set_cons_zero, List.set_cons_succ]
            refine wpAnyH_take (i := 12) (oi := ⟨some 33, _, _, _, _, _⟩) (v := undef) rfl (by kernel_rfl) (by kernel_rfl) (by kernel_rfl) (fun _ _ _ h => h) (Or.inr ⟨by rfl, rfl⟩) (by assumption) ?_
            try simp only [Act.put, List.setIfInBounds_toArray, List.set_cons_zero, List.set_cons_succ]
            refine wpAnyH_take (i := 13) (oi := ⟨some 34, _, _, _, _, _⟩) (v := ?_) rfl (by kernel_rfl) (by kernel_rfl) (by kernel_rfl) (fun _ _ _ h => h) (Or.inl ⟨by rfl, ?_⟩) (by assumption) ?_
            rotate_left
            · intro w hSw; (try dsimp only at hSw); go_simp; try (with_reducible rfl)
            rotate_left 0
            try simp only [Act.put, List.setIfInBounds_toArray, List.set_cons_zero, List.set_cons_succ]
            refine wpAnyH_take (i := 14) (oi := ⟨some 7, _, _, _, _, _⟩) (v := ?_) rfl (by kernel_rfl) (by kernel_rfl) (by kernel_rfl) (fun _ _ _ h => h) (Or.inl ⟨by rfl, ?_⟩) (by assumption) ?_
            rotate_left
            · intro w hSw; (try dsimp only at hSw); go_simp; try (with_reducible rfl)
            rotate_left 0
            try simp only [Act.put, List.setIfInBounds_toArray, List.set_cons_zero, List.set_cons_succ]
            refine wpAnyH_done (by kernel_rfl) ?_ _
            have HX := Lib.hid (HBQ.out.trans (hbX.mono HBQ.out.size))
            clear hbX
            go_wp2
            go_roundw
            · exact ⟨b + 1, true, by omega, by go_num, rfl, HT.out, HX.out⟩
            · simp [intOf]
              omega
          | false =>
            have HT : Hid ((β = true) ↔ x ∈ h.take (b + 1)) := Lib.hid (by
              rw [htk, List.mem_append, List.mem_singleton, ← HF.out, ← hβ, beq_iff_eq]
              exact ⟨fun e => .inr e.symm, fun e => e.elim (fun e => by cases e) fun e => e.symm⟩)
            clear hadl2 hcy hry hy hyb htk hyn hβ
            go_upto_region 8 with fail
            refine wp_region_held_drew (S := fun W' => Below wq.heap.size wq W') (by kernel_rfl) ?_ (fun hHeld => ?_)
            · exact hbX
            refine wpAnyH_take (i := 0) (oi := ⟨some 21, _, _, _, _, _⟩) (v := ?_) rfl (by kernel_rfl) (by kernel_rfl) (by kernel_rfl) (fun _ _ _ h => h) (Or.inl ⟨by rfl, ?_⟩) (by assumption) ?_
            rotate_left
            · intro w hSw; (try dsimp only at hSw); go_simp; try (with_reducible rfl)
            rotate_left 0
            try simp only [Act.put, List.setIfInBounds_toArray, List.set_cons_zero, List.set_cons_succ]
            refine wpAnyH_take (i := 1) (oi := ⟨some 22, _, _, _, _, _⟩) (v := ?_) rfl (by kernel_rfl) (by kernel_rfl) (by kernel_rfl) (fun _ _ _ h => h) (Or.inl ⟨by rfl, ?_⟩) (by assumption) ?_
            rotate_left
            · intro w hSw; (try dsimp only at hSw); go_simp; try (with_reducible rfl)
            rotate_left 0
            try simp only [Act.put, List.setIfInBounds_toArray, List.set_cons_zero, List.set_cons_succ]
            refine wpAnyH_take (i := 2) (oi := ⟨some 23, _, _, _, _, _⟩) (v := ?_) rfl (by kernel_rfl) (by kernel_rfl) (by kernel_rfl) (fun _ _ _ h => h) (Or.inl ⟨by rfl, ?_⟩) (by assumption) ?_
            rotate_left
            · intro w hSw; (try dsimp only at hSw); go_simp; try (with_reducible rfl)
            rotate_left 0
            try simp only [Act.put, List.setIfInBounds_toArray, List.set_cons_zero, List.set_cons_succ]
            refine wpAnyH_take (i := 3) (oi := ⟨some 24, _, _, _, _, _⟩) (v := ?_) rfl (by kernel_rfl) (by kernel_rfl) (by kernel_rfl) (fun _ _ _ h => h) (Or.inl ⟨by rfl, ?_⟩) (by assumption) ?_
            rotate_left
            · intro w hSw; (try dsimp only at hSw); go_simp; try (with_reducible rfl)
            rotate_left 0
            try simp only [Act.put, List.setIfInBounds_toArray, List.set_cons_zero, List.set_cons_succ]
            refine wpAnyH_take (i := 4) (oi := ⟨some 25, _, _, _, _, _⟩) (v := ?_) rfl (by kernel_rfl) (by kernel_rfl) (by kernel_rfl) (fun _ _ _ h => h) (Or.inl ⟨by rfl, ?_⟩) (by assumption) ?_
            rotate_left
            · intro w hSw; (try dsimp only at hSw); go_simp; try (with_reducible rfl)
            rotate_left 0
            try simp only [Act.put, List.setIfInBounds_toArray, List.set_cons_zero, List.set_cons_succ]
            refine wpAnyH_take (i := 5) (oi := ⟨some 26, _, _, _, _, _⟩) (v := (.slice Ay yn cy)) rfl (by kernel_rfl) (by kernel_rfl) (by kernel_rfl) (fun _ _ _ h => h) (Or.inl ⟨by rfl, fun W' hS => by have hcv := HXB.out W' hS; go_simp⟩) (by assumption) ?_
            try simp only [Act.put, List.setIfInBounds_toArray, List.set_cons_zero, List.set_cons_succ]
            refine wpAnyH_take (i := 6) (oi := ⟨some 27, _, _, _, _, _⟩) (v := (.string ⟨y.toArray⟩)) rfl (by kernel_rfl) (by kernel_rfl) (by kernel_rfl) (fun _ _ _ h => h) (Or.inl ⟨by rfl, fun W' hS => by have hcv := HSB.out W' hS; go_simp⟩) (by assumption) ?_
            try simp only [Act.put, List.setIfInBounds_toArray, List.set_cons_zero, List.set_cons_succ]
            refine wpAnyH_take (i := 7) (oi := ⟨some 28, _, _, _, _, _⟩) (v := ?_) rfl (by kernel_rfl) (by kernel_rfl) (by kernel_rfl) (fun _ _ _ h => h) (Or.inl ⟨by rfl, ?_⟩) (by assumption) ?_
            rotate_left
            · intro w hSw; (try dsimp only at hSw); go_simp; try (with_reducible rfl)
            rotate_left 0
            try simp only [Act.put, List.setIfInBounds_toArray, List.set_cons_zero, List.set_cons_succ]
            refine wpAnyH_take (i := 8) (oi := ⟨some 29, _, _, _, _, _⟩) (v := ?_) rfl (by kernel_rfl) (by kernel_rfl) (by kernel_rfl) (fun _ _ _ h => h) (Or.inl ⟨by rfl, ?_⟩) (by assumption) ?_
            rotate_left
            · intro w hSw; (try dsimp only at hSw); go_simp; try (with_reducible rfl)
            rotate_left 0
            try simp only [Act.put, List.setIfInBounds_toArray, List.set_cons_zero, List.set_cons_succ]
            refine wpAnyH_take (i := 9) (oi := ⟨some 30, _, _, _, _, _⟩) (v := ?_) rfl (by kernel_rfl) (by kernel_rfl) (by kernel_rfl) (fun _ _ _ h => h) (Or.inl ⟨by rfl, ?_⟩) (by assumption) ?_
            rotate_left
            · intro w hSw; (try dsimp only at hSw); go_simp; try (with_reducible rfl)
            rotate_left 0
            try simp only [Act.put, List.setIfInBounds_toArray, List.set_cons_zero, List.set_cons_succ]
            refine wpAnyH_take (i := 10) (oi := ⟨some 31, _, _, _, _, _⟩) (v := (.slice Ax xn cx)) rfl (by kernel_rfl) (by kernel_rfl) (by kernel_rfl) (fun _ _ _ h => h) (Or.inl ⟨by rfl, fun W' hS => by have hcv := HXA.out W' hS; go_simp⟩) (by assumption) ?_
            try simp only [Act.put, List.setIfInBounds_toArray, List.set_cons_zero, List.set_cons_succ]
            refine wpAnyH_take (i := 11) (oi := ⟨some 32, _, _, _, _, _⟩) (v := (.string ⟨x.toArray⟩)) rfl (by kernel_rfl) (by kernel_rfl) (by kernel_rfl) (fun _ _ _ h => h) (Or.inl ⟨by rfl, fun W' hS => by have hcv := HSA.out W' hS; go_simp⟩) (by assumption) ?_
            try simp only [Act.put, List.setIfInBounds_toArray, List.set_cons_zero, List.set_cons_succ]
            refine wpAnyH_take (i := 12) (oi := ⟨some 33, _, _, _, _, _⟩) (v := (.bool β)) rfl (by kernel_rfl) (by kernel_rfl) (by kernel_rfl) (fun _ _ _ h => h) (yields_binA (by rfl) .eql _ _ _ _ rfl (.string ⟨y.toArray⟩) (.string ⟨x.toArray⟩) rfl rfl _ (fun _ => rfl) (fun w' => HEQ.out w')) (by assumption) ?_
            try simp only [Act.put, List.setIfInBounds_toArray, List.set_cons_zero, List.set_cons_succ]
            refine wpAnyH_take (i := 13) (oi := ⟨some 34, _, _, _, _, _⟩) (v := ?_) rfl (by kernel_rfl) (by kernel_rfl) (by kernel_rfl) (fun _ _ _ h => h) (Or.inl ⟨by rfl, ?_⟩) (by assumption) ?_
            rotate_left
            · intro w hSw; (try dsimp only at hSw); go_simp; try (with_reducible rfl)
            rotate_left 0
            try simp only [Act.put, List.setIfInBounds_toArray, List.set_cons_zero, List.set_cons_succ]
            refine wpAnyH_take (i := 14) (oi := ⟨some 7, _, _, _, _, _⟩) (v := ?_) rfl (by kernel_rfl) (by kernel_rfl) (by kernel_rfl) (fun _ _ _ h => h) (Or.inl ⟨by rfl, ?_⟩) (by assumption) ?_
            rotate_left
            · intro w hSw; (try dsimp only at hSw); go_simp; try (with_reducible rfl)
            rotate_left 0
            try simp only [Act.put, List.setIfInBounds_toArray, List.set_cons_zero, List.set_cons_succ]
            refine wpAnyH_done (by kernel_rfl) ?_ _
            have HX := Lib.hid (HBQ.out.trans (hbX.mono HBQ.out.size))
            clear hbX
            go_wp2
            go_roundw
            · exact ⟨b + 1, β, by omega, by go_num, rfl, HT.out, HX.out⟩
            · simp [intOf]
              omega
        · obtain rfl : b = m := by omega
          have htk : h.take b = h := List.take_of_length_le (by rw [HN.out.2]; exact Nat.le_refl _)
          cases f with
          | true =>
            have HIN : Hid (x ∈ h) := Lib.hid (by have := HF.out.1 rfl; rwa [htk] at this)
            clear htk
            go_wp2
            go_roundw
            · exact ⟨a + 1, by omega, by go_num, fun j hj => by
                by_cases e : j = a
                · rw [e, HX0.out.1]; exact HIN.out
                · exact HALL.out j (by omega), HBQ.out⟩
            · simp [intOf]
              omega
          | false =>
            have HE : Hid (res = ((a : Int), true)) := Lib.hid (by
              rw [← HRES.out]
              unfold forB
              rw [foreignL_some (k := a) (by rw [HN.out.1]; exact han) (by rw [HX0.out.1]; intro hin; have := HF.out.2 (by rw [htk]; exact hin); cases this) HALL.out])
            clear htk
            go_wp2
            go_ret2
            rw [HE.out]
            exact ⟨rfl, HBQ.out⟩
    · obtain rfl : a = n := by omega
      have HE : Hid (res = (0, false)) := Lib.hid (by
        rw [← HRES.out]
        unfold forB
        rw [foreignL_none (fun j hj => HALL.out j (by rw [HN.out.1] at hj; exact hj))])
      go_wp2
      go_ret2
      rw [HE.out]
      exact ⟨rfl, HBA.out⟩
end Go.Proofs.Ytjdgcciemlfapaa
