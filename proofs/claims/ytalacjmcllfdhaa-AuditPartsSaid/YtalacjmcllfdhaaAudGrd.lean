/-
  Audit: the guard: two lists that part are told. In whatever memory. No condition.
-/
import Derived.Test.YtalacjmcllfdhaaAudFin
namespace Go.Proofs.Ytalacjmcllfdhaa
open Go Go.RowKit Go.Shelf Go.Maps
attribute [local go_sem] Oper.semAt_some

/-- What an iterator reads lies as it lay. -/
def SameP (W6 : World) (d B : Nat) (W' : World) : Prop := ∀ b o, W6.heap[b]? = some o → o.isCells = true → (b = d ∨ B ≤ b) → W'.heap[b]? = some o
theorem SameP.inv {W6 W' : World} {d B g : Nat} {E : List (List Nat)} (h : SameP W6 d B W') (hp : PartInv d B g E W6) : PartInv d B g E W' := hp.same h
theorem SameP.below {W6 W' W2 : World} {d B : Nat} (h : SameP W6 d B W') (hb : Below W6.heap.size W' W2) : SameP W6 d B W2 := fun b o ho hc hq => (hb.block b (Array.getElem?_eq_some_iff.1 ho).1).trans (h b o ho hc hq)
theorem SameP.kept {W6 W' W2 : World} {d B nb : Nat} (h : SameP W6 d B W') (hk : Keep (fun b => b = nb) W' W2) (h1 : nb ≠ d) (h2 : nb < B) : SameP W6 d B W2 := fun b o ho hc hq => hk.cells b o (h b o ho hc hq) hc fun e => by rcases hq with q | q <;> omega
theorem only_one {pre : List (Nat × Nat × Nat)} {x y : Nat × Nat × Nat} (h : (pre ++ [x]) <+: [y]) : pre = [] ∧ x = y := by
  obtain ⟨t, ht⟩ := h
  cases pre with
  | nil => simp at ht; exact ⟨rfl, ht.1⟩
  | cons a r =>
    have := congrArg List.length ht
    simp at this
theorem neq_part (w : World) : (binOp .neq 31 (.agg #[.int .i64 0, .int .i64 1, .int .i64 1]) (.agg #[.int .i64 0, .int .i64 1, .int .i64 1])).run Try.prog w = .ok (.bool false) w := by kernel_rfl
set_option maxRecDepth 100000 in
set_option maxHeartbeats 8000000 in
theorem finds_any (w : World) : Calls Try.prog 5 #[] w fun e w' => e = .returned (.bool true) ∧ Below w.heap.size w w' := by
  have kc1 := fun (C : Array Value) (n c : Nat) => Go.Joins.run_convert_bytes_const_at (P := Try.prog) (w.alloc (.cells #[.bool false] 4)) 43 5 C n c (w.heap.size + 1) (by simp) Try.underlying43 Try.underlying5
  have kc2 := fun (C : Array Value) (n c : Nat) => Go.Joins.run_convert_bytes_const_at (P := Try.prog) ((w.alloc (.cells #[.bool false] 4)).alloc (.cells #[.int .u8 120] 5 (1, 2))) 43 5 C n c (w.heap.size + 1 + 1) (by simp) Try.underlying43 Try.underlying5
  have kc3 := fun (C : Array Value) (n c : Nat) => Go.Joins.run_convert_bytes_const_at (P := Try.prog) ((((w.alloc (.cells #[.bool false] 4)).alloc (.cells #[.int .u8 120] 5 (1, 2))).alloc (.cells #[.int .u8 121] 5 (1, 2))).alloc (.cells #[.slice (some ⟨w.heap.size + 1, 0, none⟩) 1 1, .slice (some ⟨w.heap.size + 1 + 1, 0, none⟩) 1 1] 43)) 43 5 C n c (w.heap.size + 1 + 1 + 1 + 1) (by simp) Try.underlying43 Try.underlying5
  have kc4 := fun (C : Array Value) (n c : Nat) => Go.Joins.run_convert_bytes_const_at (P := Try.prog) (((((w.alloc (.cells #[.bool false] 4)).alloc (.cells #[.int .u8 120] 5 (1, 2))).alloc (.cells #[.int .u8 121] 5 (1, 2))).alloc (.cells #[.slice (some ⟨w.heap.size + 1, 0, none⟩) 1 1, .slice (some ⟨w.heap.size + 1 + 1, 0, none⟩) 1 1] 43)).alloc (.cells #[.int .u8 120] 5 (1, 2))) 43 5 C n c (w.heap.size + 1 + 1 + 1 + 1 + 1) (by simp) Try.underlying43 Try.underlying5
  refine (callsIn_wide (n := 0)).1 ?_
  refine callsIn_of_wp_marks Try.func5 rfl trivial ?_ rfl
  simp only [Try.ntmps5, List.size_toArray, List.length_nil, Nat.reduceSub, Array.replicate_succ, Array.replicate_zero, List.push_toArray, List.append_toArray, List.nil_append, List.cons_append]
  refine wpIn_wide.2 ?_
  go_upto_region 2 with fail
  clear kc1 kc2 kc3 kc4
  obtain ⟨W1, hW1, hM1⟩ := fin_mem w
  rw [hW1]
  clear hW1
  obtain ⟨B, hB⟩ : ∃ z, W1.heap.size = z := ⟨_, rfl⟩
  obtain ⟨ga, hga⟩ : ∃ z, w.heap.size + 1 + 1 + 1 = z := ⟨_, rfl⟩
  obtain ⟨gb, hgb⟩ : ∃ z, ga + 1 + 1 + 1 = z := ⟨_, rfl⟩
  rw [hB, hga, hgb] at hM1
  rw [hga, hgb]
  have HM1 := Lib.hid hM1
  have HFO : Hid (Calls Try.prog 12 #[.slice (some ⟨ga, 0, none⟩) 2 2, .slice (some ⟨gb, 0, none⟩) 2 2] W1 fun e w' => e = .returned (.tuple #[.int .i64 1, .bool true]) ∧ Below W1.heap.size W1 w') := Lib.hid (by
    have := foreign_any (some ⟨ga, 0, none⟩) (some ⟨gb, 0, none⟩) 2 2 finA finB W1 (hM1.ra.mono fun b hb => by omega) (hM1.rb.mono fun b hb => by omega) (by decide) (by decide) (by decide) (by decide)
    rw [forB_fin] at this
    exact this)
  have hsl : ∀ W, (Instr.sliceAt 33 (.slice (some ⟨ga, 0, none⟩) 2 2) none (some (.int .i64 1)) none).run Try.prog W = .ok (.slice (some ⟨ga, 0, none⟩) 1 2) W := fun W => run_slice_toC elB (some ⟨ga, 0, none⟩) 2 2 1 (by omega) W
  have HLG : Hid (∀ W, FinM w B ga gb W → Calls Try.prog 9 #[.slice (some ⟨W.heap.size, 0, none⟩) 3 3] (W.alloc (.cells #[.slice (some ⟨ga, 0, none⟩) 1 2, .slice (some ⟨gb, 0, none⟩) 2 2, .slice (some ⟨ga, 0, none⟩) 2 2] 33)) fun e w' => ∃ A' c', e = .returned (.slice A' 2 c') ∧ w' = W.alloc (.cells #[.slice (some ⟨ga, 0, none⟩) 1 2, .slice (some ⟨gb, 0, none⟩) 2 2, .slice (some ⟨ga, 0, none⟩) 2 2] 33)) := Lib.hid fun W hM => by
    have hb : Below W.heap.size W (W.alloc (.cells #[.slice (some ⟨ga, 0, none⟩) 1 2, .slice (some ⟨gb, 0, none⟩) 2 2, .slice (some ⟨ga, 0, none⟩) 2 2] 33)) := (Below.refl _ _).alloc (Nat.le_refl _) _
    have hM' := hM.below hb
    have hrr := rdPP_threeA (ok := fun _ => True) (Blk.newAt W _ rfl rfl) ⟨rfl, by decide, (rdP_headA (hM'.ra.mono fun _ _ => trivial))⟩ ⟨rfl, by decide, hM'.rb.mono fun _ _ => trivial⟩ ⟨rfl, by decide, hM'.ra.mono fun _ _ => trivial⟩ trivial
    refine (longest_any (some ⟨W.heap.size, 0, none⟩) 3 [[[120]], finB, finA] _ _ hrr (by decide)).mono ?_
    rintro e w' ⟨A', q, c', rfl, h1, h2, rfl⟩
    have e1 := h1 finB (by simp)
    have hq : q = 2 := by
      rcases h2 with h | ⟨l, hl, h⟩
      · subst h
        exact absurd e1 (by decide)
      · have : finB.length = 2 := rfl
        have hl2 : l.length ≤ 2 := by
          simp only [List.mem_cons, List.not_mem_nil, or_false] at hl
          rcases hl with rfl | rfl | rfl <;> decide
        omega
    subst hq
    exact ⟨A', c', rfl, rfl⟩
  have HPT : Hid (∀ W, FinM w B ga gb W → Calls Try.prog 8 #[.slice (some ⟨W.heap.size, 0, none⟩) 3 3] (W.alloc (.cells #[.slice (some ⟨ga, 0, none⟩) 2 2, .slice (some ⟨gb, 0, none⟩) 2 2, .slice (some ⟨ga, 0, none⟩) 1 2] 33)) fun e w' => ∃ d g E, e = .returned (.func (.func 15) #[] #[.pointer (some ⟨d, 0, none⟩)]) ∧ PartInv d (W.heap.size + 1) g E w' ∧ W.heap.size + 1 ≤ d ∧ E.length ≤ 8 ∧ (∀ l ∈ E, l.length ≤ 12) ∧ partsL E = [(0, 1, 1)] ∧ FinM w B ga gb w' ∧ Below W.heap.size W w') := Lib.hid fun W hM => by
    obtain ⟨WW, hWW⟩ : ∃ z, W.alloc (.cells #[.slice (some ⟨ga, 0, none⟩) 2 2, .slice (some ⟨gb, 0, none⟩) 2 2, .slice (some ⟨ga, 0, none⟩) 1 2] 33) = z := ⟨_, rfl⟩
    have hb : Below W.heap.size W WW := by rw [← hWW]; exact (Below.refl _ _).alloc (Nat.le_refl _) _
    have hsz : WW.heap.size = W.heap.size + 1 := by rw [← hWW]; simp
    have kr : Blk WW W.heap.size 33 #[.slice (some ⟨ga, 0, none⟩) 2 2, .slice (some ⟨gb, 0, none⟩) 2 2, .slice (some ⟨ga, 0, none⟩) 1 2] := by rw [← hWW]; exact Blk.newAt _ _ rfl rfl
    rw [hWW]
    clear hWW
    have hM' := hM.below hb
    have hB2 := hM'.base.2
    have hrr := rdPP_threeA (ok := fun b => b < WW.heap.size) kr ⟨rfl, by decide, hM'.ra.mono fun _ h => Nat.lt_of_lt_of_le h hB2⟩ ⟨rfl, by decide, hM'.rb.mono fun _ h => Nat.lt_of_lt_of_le h hB2⟩ ⟨rfl, by decide, (rdP_headA (hM'.ra.mono fun _ h => Nat.lt_of_lt_of_le h hB2))⟩ (by omega)
    refine (parts_any (some ⟨W.heap.size, 0, none⟩) 3 finL _ hrr finL_few.1).mono ?_
    rintro e w' ⟨d, g, E, rfl, h1, h2, h3, h4, h5, h6⟩
    rw [hsz] at h1 h2
    exact ⟨d, g, E, rfl, h1, h2, by rw [h3]; decide, h4, by rw [h5, finL_parts], hM'.below h6, hb.trans (h6.mono hb.size)⟩
  clear hM1 hga hgb hB
  go_upto_region 5 with (first
    | (go_at_call 12; refine HFO.out.mono ?_; rintro e W2 ⟨rfl, hb2⟩; have HM2 := Lib.hid (HM1.out.below hb2); clear hb2)
    | (go_at_call 9; refine (HLG.out W2 HM2.out).mono ?_; rintro e W3 ⟨A3, c3, rfl, rfl⟩))
  generalize hW4 : World.alloc W2 _ = W4
  have HM4 : Hid (FinM w B ga gb W4) := Lib.hid (by rw [← hW4]; exact HM2.out.below ((Below.refl _ _).alloc (Nat.le_refl _) _))
  clear hW4 HM2 HLG HFO HM1
  go_upto_region 6 with fail
  generalize hW5 : World.alloc W4 _ = W5
  obtain ⟨nb, hnb⟩ : ∃ z, W4.heap.size = z := ⟨_, rfl⟩
  have HM5 : Hid (FinM w B ga gb W5 ∧ Blk W5 nb 3 #[.int .i64 0] ∧ w.heap.size < nb) := Lib.hid (by
    refine ⟨?_, ?_, ?_⟩
    · rw [← hW5]
      exact HM4.out.below ((Below.refl _ _).alloc (Nat.le_refl _) _)
    · rw [← hW5, ← hnb]
      exact Blk.newAt _ _ rfl rfl
    · have := HM4.out.base
      omega)
  rw [hnb]
  clear hW5 HM4 hnb
  go_wp2_with (go_at_call 8; refine (HPT.out W5 HM5.out.1).mono ?_; rintro e W6 ⟨d, g, E, rfl, hp1, hp2, hp3, hp4, hp5, hp6, hp7⟩; have HP := Lib.hid (And.intro hp1 (And.intro hp2 (And.intro hp3 (And.intro hp4 (And.intro hp5 (And.intro hp6 hp7)))))); clear hp1 hp2 hp3 hp4 hp5 hp6 hp7)
  clear hsl
  have HNB : Hid (nb < W5.heap.size) := Lib.hid HM5.out.2.1.lt
  refine (wpIn_wide (n := 0)).1 ?_
  refine wpIn_rangeFunc_D (gf := 15) (lb := #[.pointer (some ⟨d, 0, none⟩)]) rfl (enters_of Try.func15 (by kernel_rfl) rfl)
    (parts_seq d (W5.heap.size + 1) g E (fun b => b = nb) W6 HP.out.2.2.1 HP.out.2.2.2.1 (fun b hb => by have := HNB.out; have := HP.out.2.2.2.2.2.2.size; omega)) (fun _ => rfl)
    (fun pre W' => Blk W' nb 3 #[.int .i64 (pre.length : Int)] ∧ Blk W' w.heap.size 4 #[.bool false] ∧ SameP W6 d (W5.heap.size + 1) W' ∧ Below w.heap.size w W')
    (fun _ _ _ => False)
    (fun s A' B' hs hb => ?abI) (fun s W' hs => hs.2.2.1.inv HP.out.1) (fun _ _ _ _ hs _ => hs) ?start
    (fun x a' W' => ∃ Bx, W6.heap.size ≤ Bx ∧ Blk W' Bx 31 #[.int .i64 0, .int .i64 1, .int .i64 1] ∧ a' = { tmps := #[.pointer (some ⟨w.heap.size, 0, none⟩), .slice (some ⟨ga, 0, none⟩) 2 2, .slice (some ⟨gb, 0, none⟩) 2 2, .int .i64 1, .bool true, .pointer (some ⟨nb, 0, none⟩), .pointer (some ⟨Bx, 0, none⟩), .slice (some ⟨w.heap.size + 1, 0, none⟩) 1 1, .slice (some ⟨w.heap.size + 1, 0, none⟩) 1 1, .slice (some ⟨w.heap.size + 1 + 1, 0, none⟩) 1 1, .slice (some ⟨w.heap.size + 1 + 1, 0, none⟩) 1 1, .slice (some ⟨ga, 0, none⟩) 2 2, .slice (some ⟨ga + 1, 0, none⟩) 1 1, .slice (some ⟨ga + 1, 0, none⟩) 1 1, .slice (some ⟨ga + 1 + 1, 0, none⟩) 1 1, .slice (some ⟨ga + 1 + 1, 0, none⟩) 1 1, .slice (some ⟨gb, 0, none⟩) 2 2, .tuple #[.int .i64 1, .bool true], .slice (some ⟨ga, 0, none⟩) 2 2, .slice (some ⟨gb, 0, none⟩) 2 2, .tuple #[.int .i64 1, .bool true], .int .i64 1, .bool true, .bool true, .bool false, .bool false, .int .i64 1, .bool false, .bool false, .bool false, .slice (some ⟨ga, 0, none⟩) 2 2, .slice (some ⟨ga, 0, none⟩) 1 2, .slice (some ⟨gb, 0, none⟩) 2 2, .slice (some ⟨ga, 0, none⟩) 2 2, .slice (some ⟨W2.heap.size, 0, none⟩) 3 3, .slice A3 2 c3, .int .i64 2, .bool false, .bool false, .slice (some ⟨ga, 0, none⟩) 2 2, .slice (some ⟨gb, 0, none⟩) 2 2, .slice (some ⟨ga, 0, none⟩) 2 2, .slice (some ⟨ga, 0, none⟩) 1 2, .slice (some ⟨W5.heap.size, 0, none⟩) 3 3, .func (.func 15) #[] #[.pointer (some ⟨d, 0, none⟩)], .agg #[.int .i64 0, .int .i64 1, .int .i64 1], undef, undef, undef, undef, undef, undef, undef], defers := [] })
    (fun x a' W' l o o' _ h1 h2 h3 => by
      obtain ⟨Bx, q1, q2, q3⟩ := h3
      exact ⟨Bx, q1, q2.putObj o' h1 h2, q3⟩) ?assign ?body ?done ?stop
  case abI =>
    have h6 := HP.out.2.2.2.2.2.2.size
    have h5 := HNB.out
    have h7 := HM5.out.2.2
    exact ⟨hs.1.below hb (by omega), hs.2.1.below hb (by omega), hs.2.2.1.below hb, hs.2.2.2.trans (hb.mono (by omega))⟩
  case start =>
    exact ⟨HM5.out.2.1.below HP.out.2.2.2.2.2.2 HNB.out, HP.out.2.2.2.2.2.1.kb, fun b o ho _ _ => ho, HP.out.2.2.2.2.2.1.old⟩
  case assign =>
    intro l pre x W' K hlt hpre hi hK
    rw [HP.out.2.2.2.2.1] at hpre
    obtain ⟨rfl, rfl⟩ := only_one hpre
    have HI := Lib.hid hi
    have HSZ := Lib.hid hlt
    clear hi hlt hpre
    simp only [encT]
    gi_wp2
    have hbel : Below W'.heap.size W' (W'.alloc (.cells #[.int .i64 0, .int .i64 1, .int .i64 1] 31)) := (Below.refl _ _).alloc (Nat.le_refl _) _
    have hi := HI.out
    exact hK _ _ (keepsFrom_of_below hbel) (.of_below hbel) ⟨hi.1.below hbel hi.1.lt, hi.2.1.below hbel hi.2.1.lt, hi.2.2.1.below (hbel.mono (by have := HSZ.out; omega)), hi.2.2.2.trans (hbel.mono hi.2.2.2.size)⟩ ⟨W'.heap.size, by have := HSZ.out; omega, Blk.newAt _ _ rfl rfl, rfl⟩
  case body =>
    rintro l pre x a' W' hl hlt hpre hi ⟨Bx, hBx, hBk, rfl⟩
    rw [HP.out.2.2.2.2.1] at hpre
    obtain ⟨rfl, rfl⟩ := only_one hpre
    have HI := Lib.hid hi
    have HBK := Lib.hid hBk
    have hne := neq_part
    have cn : W'.cell? ⟨nb, 0, none⟩ = some (.int .i64 0) := by rw [hi.1.cell]; rfl
    have fn : W'.frozen? ⟨nb, 0, none⟩ = false := hi.1.frozen 0
    clear hi hBk hpre hBx
    gi_wp2_with (first
      | (guard_target = wpListIn _ _ _ _ _ (Oper.mk _ (.load 31 _) _ _ _ _ :: _) _ _; refine wpListIn_load_arr (fun _ => trivial) rfl 31 _ rfl Bx rfl 31 _ _ HBK.out Try.underlying31 rfl (by kernel_rfl) ?_))
    have hi := HI.out
    have hk : Keep (fun b => b = nb) W' (W'.setCell ⟨nb, 0, none⟩ (.int .i64 1)) := .setCell _ _ _ rfl
    have hnb := HNB.out
    have hnw := HM5.out.2.2
    have hd := HP.out.2.1
    refine ⟨keepsFrom_row hi.1 (by simp [World.setCell]) (fun b hb => Below.heap_setCell _ _ _ _ hb), hk, (hi.1.store 0 _).same rfl, hi.2.1.kept hk (by omega), hi.2.2.1.kept hk (by omega) (by omega), hi.2.2.2.setCell (by simp; omega) _⟩
  case done =>
    rintro D Wd hD hi hK
    have cn : Wd.cell? ⟨nb, 0, none⟩ = some (.int .i64 1) := by rw [hi.1.cell, HP.out.2.2.2.2.1]; rfl
    have c0 : Wd.cell? ⟨w.heap.size, 0, none⟩ = some (.bool false) := by rw [hi.2.1.cell]; rfl
    have f0 : Wd.frozen? ⟨w.heap.size, 0, none⟩ = false := hi.2.1.frozen 0
    have HI := Lib.hid hi
    have HK := Lib.hid hK
    have HD := Lib.hid hD
    clear hi hK hD
    go_wp2
    have hi := HI.out
    have hnw := HM5.out.2.2
    have hnb := HNB.out
    have h6 := HP.out.2.2.2.2.2.2.size
    have hD0 : D ≠ w.heap.size := by have := HD.out; omega
    have hK2 : (Wd.setCell ⟨w.heap.size, 0, none⟩ (.bool true)).heap[D]? = some (.deferred (some [])) := (Below.heap_setCell _ _ _ _ hD0).trans HK.out
    refine ⟨by simp, .inl ⟨_, _, rfl, run_takeDeferred hK2, ?_⟩⟩
    have kb := (hi.2.1.store 0 (.bool true)).putObj (.deferred none) hK2 rfl
    refine ⟨.bool true, results_cell1 rfl _ _ ⟨w.heap.size, 0, none⟩ _ rfl (loadVar_oneA Try.underlying4 rfl (by rw [kb.cell]; rfl)), rfl, below_putObj (hi.2.2.2.setCell (by simp) _) _ (by have := HD.out; omega)⟩
  case stop =>
    rintro D c pre W' _ _ _ h _
    exact h.elim
end Go.Proofs.Ytalacjmcllfdhaa
