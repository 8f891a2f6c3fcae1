/-
  One's way to agreement: timers for what so many voted. No condition.
-/
import Derived.Test.YtbgojlcciealiaaRndBeg
namespace Go.Proofs.Ytbgojlcciealiaa
open Go Go.RowKit Go.Maps

/-- Acts in a row of one's own, its block not below b. -/
def OwnA (b : Nat) (w : World) (v : Value) (l : List ActS) : Prop := (∀ x ∈ l, ActOk x) ∧ l.length ≤ 1000000 ∧ w.ownsRow b 71 36 v l.length (actsC l)
theorem ActsR.own {W w' : World} {v : Value} {l : List ActS} (h : ActsR W w' v l) : OwnA W.heap.size w' v l := h
theorem OwnA.low {b b' : Nat} {w : World} {v : Value} {l : List ActS} (h : OwnA b w v l) (hb : b' ≤ b) : OwnA b' w v l := by
  refine ⟨h.1, h.2.1, h.2.2.1, ?_⟩
  rcases h.2.2.2 with h0 | ⟨g, cap, cur, h1, h2, h3⟩
  · exact .inl h0
  · exact .inr ⟨g, cap, cur, h1, Nat.le_trans hb h2, h3⟩
theorem OwnA.below {b : Nat} {w w' : World} {v : Value} {l : List ActS} (h : OwnA b w v l) (hb : Below w.heap.size w w') : OwnA b w' v l := ⟨h.1, h.2.1, rowV_kept h.2.2 hb⟩
theorem OwnA.grown {b : Nat} {w w' : World} {v : Value} {l : List ActS} {B : Nat} (h : OwnA b w v l) (hg : w.grownBy w' (some B)) (hB : B < b) : OwnA b w' v l := ⟨h.1, h.2.1, h.2.2.kept hg (.inr fun e => by
    rcases h.2.2.2 with ⟨rfl, _⟩ | ⟨g, cap, cur, rfl, h2, _⟩
    · cases e
    · have e' : g = B := Option.some.inj e
      omega)⟩
theorem OwnA.chg {b : Nat} {w w' : World} {v : Value} {l : List ActS} {B M : Nat} {kv kv' : Value} (h : OwnA b w v l) (hg : Chg w w' B M kv kv') (hB : B < b) (hM : M < b) (hk : ∀ g, kv.ownBlock = some g → g < b) : OwnA b w' v l := by
  refine ⟨h.1, h.2.1, h.2.2.1, ?_⟩
  rcases h.2.2.2 with h0 | ⟨g, cap, cur, h1, h2, h3, h4⟩
  · exact .inl h0
  · have hlt : g < w.heap.size := (Array.getElem?_eq_some_iff.1 h3).1
    refine .inr ⟨g, cap, cur, h1, h2, ?_, h4⟩
    rw [hg.block g hlt (by omega) (by omega) (fun e => by have := hk g e.symm; omega)]
    exact h3
theorem ownA_nil (b : Nat) (w : World) : OwnA b w (.slice none 0 0) [] := ⟨fun _ h => (by cases h), Nat.zero_le _, World.ownsRow_nil _ _ _ _⟩
/-- An append of acts onto acts of one's own. -/
theorem app_own {b b' : Nat} {w : World} {v u : Value} {l1 l2 : List ActS} (hB : b ≤ w.heap.size) (h1 : OwnA b w v l1) (h2 : OwnA b' w u l2) (hlen : l1.length + l2.length ≤ 1000000) :
    ∃ v' w', (Builtin.append_ #[68, 68] 68 #[v, u]).run Try.prog w = .ok v' w' ∧ OwnA b w' v' (l1 ++ l2) ∧ w.grownBy w' v.ownBlock ∧ ∀ g, v.ownBlock = some g → b ≤ g := by
  have hr : RdA w w.heap.size u l2 := rdA_own h2.2.2 h2.1 rfl (by have := h2.2.1; omega)
  obtain ⟨_, Aq, c, rfl, _⟩ := id hr
  obtain ⟨v', w', hrun, how, hg, _⟩ := app_acts hB h1.2.2 hr (by omega)
  refine ⟨v', w', hrun, ⟨fun x hx => ?_, by rw [List.length_append]; exact hlen, ?_⟩, hg, fun g e => ?_⟩
  · rcases List.mem_append.1 hx with hx | hx
    · exact h1.1 x hx
    · exact h2.1 x hx
  · rw [List.length_append, actsC_append]
    exact how
  · rcases h1.2.2.2 with ⟨rfl, _⟩ | ⟨g', cap, cur, rfl, h2', _⟩
    · cases e
    · have e' : g' = g := Option.some.inj e
      omega
/-- The blocks of one's way lie below b. -/
structure LowR (b B C M : Nat) (kv : Value) : Prop where
  B : B < b
  C : C < b
  M : M < b
  kv : ∀ g, kv.ownBlock = some g → g < b
theorem RoundAt.low {W : World} {B C M n : Nat} {kv : Value} {s : RdS} (h : RoundAt W B C M n kv s) : LowR W.heap.size B C M kv := ⟨h.lt, h.cnt.ltB, h.cnt.ltM, fun g e => (h.own.lt g e).2⟩
theorem RoundAt.grownO {b : Nat} {W W' : World} {B C M n : Nat} {kv : Value} {s : RdS} {o : Option Nat} (h : RoundAt W B C M n kv s) (hl : LowR b B C M kv) (hg : W.grownBy W' o) (ho : ∀ g, o = some g → b ≤ g) : RoundAt W' B C M n kv s := by
  have ne : ∀ x, x < b → some x ≠ o := fun x hx e => by have := ho x e.symm; omega
  refine ⟨h.blk.grown hg (ne B hl.B), h.cnt.same (hg.block C h.cnt.ltB (ne C hl.C)) (hg.block M h.cnt.ltM (ne M hl.M)), h.own.kept hg ?_, h.ok⟩
  cases hk : kv.ownBlock with
  | none => exact .inl rfl
  | some g => exact .inr (ne g (hl.kv g hk))
theorem grown_new {W W1 W2 : World} {B : Nat} {o : Option Nat} (h1 : W.grownBy W1 (some B)) (h2 : W1.grownBy W2 o) (ho : ∀ g, o = some g → W.heap.size ≤ g) : W.grownBy W2 (some B) :=
  ⟨h2.os.trans h1.os, h2.tape.trans h1.tape, h2.output.trans h1.output, Nat.le_trans h1.size h2.size, fun k hk hne => (h2.block k (Nat.lt_of_lt_of_le hk h1.size) fun e => by have := ho k e.symm; omega).trans (h1.block k hk hne)⟩
theorem int_geq (a b : Int) (v : Bool) (h : decide (b ≤ a) = v) (w : World) : (binOp .geq 3 (.int .i64 a) (.int .i64 b)).run Try.prog w = .ok (.bool v) w := by
  subst h
  go_simp
theorem RoundAt.drew {W : World} {B C M n : Nat} {kv : Value} {s : RdS} (h : RoundAt W B C M n kv s) : RoundAt W.drew B C M n kv s := h.below (Below.refl _ W).drew
theorem OwnA.drew {b : Nat} {w : World} {v : Value} {l : List ActS} (h : OwnA b w v l) : OwnA b w.drew v l := h.below (Below.refl _ w).drew
theorem grown_drew {W W1 : World} {o : Option Nat} (h : W.grownBy W1 o) : W.grownBy W1.drew o := h.trans (grown_of_below (Below.refl _ W1).drew o)
theorem timerA_len (s : RdS) (k t : Nat) : (timerA s k t).length ≤ 1 := by
  unfold timerA
  split <;> simp
theorem timerS_keep (s : RdS) (k t : Nat) : (timerS s k t).voters = s.voters ∧ (timerS s k t).votes = s.votes := by
  unfold timerS timS
  split <;> exact ⟨rfl, rfl⟩
set_option maxRecDepth 100000 in
set_option maxHeartbeats 8000000 in
theorem wait_off_few {W : World} {B C M n : Nat} {kv : Value} {s : RdS} (h : RoundAt W B C M n kv s) (k : Nat) (hk : s.round = (k : Int)) (hk12 : k < 12) (hst : s.step ≠ 1) (hw2 : decide (need s.voters ≤ (allN s.voters s.votes (k : Int) 1 : Int)) = false) : Calls Try.prog 71 #[.pointer (some ⟨B, 0, none⟩)] W fun e w' => (∃ v, e = .returned v ∧ OwnA W.heap.size w' v ([] ++ [])) ∧ RoundAt w' B C M n kv (s) ∧ W.grownBy w' (some B) := by
  have hR := h
  have hO : OwnA W.heap.size W (.slice none 0 0) [] := ownA_nil _ _
  have hG : W.grownBy W (some B) := grown_of_below (Below.refl _ W) _
  have HL := Lib.hid h.low
  have HK := Lib.hid hk
  have HK1 : Hid ((timerS s k 1).round = (k : Int)) := Lib.hid (by rw [timerS_round, hk])
  have HALL : Hid (∀ (s' : RdS) (j : Int) W', 0 ≤ j ∧ j ≤ 1 → s'.voters = s.voters → s'.votes = s.votes → RoundAt W' B C M n kv s' → Calls Try.prog 24 #[.pointer (some ⟨C, 0, none⟩), .int .i64 (k : Int), .int .i64 j] W' fun e w' => e = .returned (.int .i64 (allN s.voters s.votes (k : Int) j : Int)) ∧ Below W'.heap.size W' w') := Lib.hid fun s' j W' hj e1 e2 hR => by
    have := all_any hR.cnt (k : Int) j (wfi_small (by omega) (by omega)) (wfi_small (by omega) (by omega)) hR.ok.voters.2.1
    rwa [e1, e2] at this
  have HA0F : Hid (∀ W', RoundAt W' B C M n kv s → Calls Try.prog 24 #[.pointer (some ⟨C, 0, none⟩), .int .i64 (k : Int), .int .i64 0] W' fun e w' => e = .returned (.int .i64 (allN s.voters s.votes (k : Int) 0 : Int)) ∧ Below W'.heap.size W' w') := Lib.hid fun W' hR => HALL.out s 0 W' ⟨by omega, by omega⟩ rfl rfl hR
  have HA1F : Hid (∀ W', RoundAt W' B C M n kv (s) → Calls Try.prog 24 #[.pointer (some ⟨C, 0, none⟩), .int .i64 (k : Int), .int .i64 1] W' fun e w' => e = .returned (.int .i64 (allN s.voters s.votes (k : Int) 1 : Int)) ∧ Below W'.heap.size W' w') := Lib.hid fun W' hR => HALL.out (s) 1 W' ⟨by omega, by omega⟩ rfl rfl hR
  clear HALL
  have HND : Hid (∀ w, Calls Try.prog 19 #[.int .i64 (s.voters : Int)] w fun e w' => e = .returned (.int .i64 (need s.voters)) ∧ w' = w) := Lib.hid fun w => need_any _ w
  generalize (allN s.voters s.votes (k : Int) 0 : Int) = a0 at HA0F 
  generalize (allN s.voters s.votes (k : Int) 1 : Int) = a1 at HA1F hw2
  generalize need s.voters = nd at HND  hw2
  skip
  have HA1 := Lib.hid hw2
  have c0 : W.cell? ⟨B, 0, none⟩ = some (.int .i64 (s.voters : Int)) := h.cell (i := 0) (by omega)
  clear h  hw2 hk hk12
  have hs1 : (s.step == 1) = false := by rw [beq_eq_false_iff_ne]; exact hst
  go_enter Try.func71, Try.ntmps71
  go_upto_region 3 with (first
    | (go_at_call 19; refine (HND.out _).mono ?_; rintro e Wn ⟨rfl, h1⟩; obtain rfl := h1.symm))
  clear c0
  replace hR := hR.drew
  replace hO := hO.drew
  replace hG := grown_drew hG
  refine wp_region_held_drew (S := fun W' => RoundAt W' B C M n kv s) (by kernel_rfl) ?_ (fun hHeld => ?_)
  · exact hR
  refine tkH (v := ?_) 0 ⟨some 10, _, _, _, _, _⟩ rfl (Or.inl ⟨by rfl, ?_⟩) ?_
  rotate_left
  · intro w hSw; (try dsimp only at hSw); go_simp; try (with_reducible rfl)
  try simp only [Act.put, nz1, nz2, nz3]
  refine tkH (v := ?_) 1 ⟨some 11, _, _, _, _, _⟩ rfl (Or.inl ⟨by rfl, ?_⟩) ?_
  rotate_left
  · intro w hSw; (try dsimp only at hSw); go_simp; try (with_reducible rfl)
  try simp only [Act.put, nz1, nz2, nz3]
  refine tkH (v := ?_) 2 ⟨some 12, _, _, _, _, _⟩ rfl (Or.inl ⟨by rfl, ?_⟩) ?_
  rotate_left
  · intro w hSw; (try dsimp only at hSw); go_simp; try (with_reducible rfl)
  try simp only [Act.put, nz1, nz2, nz3]
  refine tkH (v := (.int .i64 s.step)) 3 ⟨some 13, _, _, _, _, _⟩ rfl (yields_one (by rfl) 3 _ rfl ⟨B, 4, none⟩ rfl _ _ (fun W' hS => hS.cell (i := 4) (by omega)) Try.underlying3 rfl) ?_
  try simp only [Act.put, nz1, nz2, nz3]
  refine tkH (v := ?_) 4 ⟨some 14, _, _, _, _, _⟩ rfl (Or.inl ⟨by rfl, ?_⟩) ?_
  rotate_left
  · intro w hSw; (try dsimp only at hSw); go_simp; try (with_reducible rfl)
  try simp only [Act.put, nz1, nz2, nz3]
  refine tkH (v := ?_) 5 ⟨some 15, _, _, _, _, _⟩ rfl (Or.inl ⟨by rfl, ?_⟩) ?_
  rotate_left
  · intro w hSw; (try dsimp only at hSw); go_simp; try (with_reducible rfl)
  try simp only [Act.put, nz1, nz2, nz3]
  refine tkH (v := undef) 6 ⟨some 16, _, _, _, _, _⟩ rfl (Or.inr ⟨by rfl, rfl⟩) ?_
  try simp only [Act.put, nz1, nz2, nz3]
  refine tkH (v := undef) 7 ⟨some 17, _, _, _, _, _⟩ rfl (Or.inr ⟨by rfl, rfl⟩) ?_
  try simp only [Act.put, nz1, nz2, nz3]
  refine tkH (v := undef) 8 ⟨some 18, _, _, _, _, _⟩ rfl (Or.inr ⟨by rfl, rfl⟩) ?_
  try simp only [Act.put, nz1, nz2, nz3]
  refine tkH (v := undef) 9 ⟨some 19, _, _, _, _, _⟩ rfl (Or.inr ⟨by rfl, rfl⟩) ?_
  try simp only [Act.put, nz1, nz2, nz3]
  refine tkH (v := undef) 10 ⟨some 20, _, _, _, _, _⟩ rfl (Or.inr ⟨by rfl, rfl⟩) ?_
  try simp only [Act.put, nz1, nz2, nz3]
  refine tkH (v := undef) 11 ⟨some 21, _, _, _, _, _⟩ rfl (Or.inr ⟨by rfl, rfl⟩) ?_
  try simp only [Act.put, nz1, nz2, nz3]
  refine tkH (v := undef) 12 ⟨some 22, _, _, _, _, _⟩ rfl (Or.inr ⟨by rfl, rfl⟩) ?_
  try simp only [Act.put, nz1, nz2, nz3]
  refine tkH (v := undef) 13 ⟨some 23, _, _, _, _, _⟩ rfl (Or.inr ⟨by rfl, rfl⟩) ?_
  try simp only [Act.put, nz1, nz2, nz3]
  refine tkH (v := undef) 14 ⟨some 24, _, _, _, _, _⟩ rfl (Or.inr ⟨by rfl, rfl⟩) ?_
  try simp only [Act.put, nz1, nz2, nz3]
  refine tkH (v := undef) 15 ⟨some 25, _, _, _, _, _⟩ rfl (Or.inr ⟨by rfl, rfl⟩) ?_
  try simp only [Act.put, nz1, nz2, nz3]
  refine tkH (v := undef) 16 ⟨some 26, _, _, _, _, _⟩ rfl (Or.inr ⟨by rfl, rfl⟩) ?_
  try simp only [Act.put, nz1, nz2, nz3]
  refine tkH (v := ?_) 17 ⟨some 27, _, _, _, _, _⟩ rfl (Or.inl ⟨by rfl, ?_⟩) ?_
  rotate_left
  · intro w hSw; (try dsimp only at hSw); go_simp; try (with_reducible rfl)
  try simp only [Act.put, nz1, nz2, nz3]
  refine wpAnyH_done (by kernel_rfl) ?_ _
  go_upto_region 5 with fail
  replace hR := hR.drew
  replace hO := hO.drew
  replace hG := grown_drew hG
  refine wp_region_held_drew (S := fun W' => RoundAt W' B C M n kv (s)) (by kernel_rfl) ?_ (fun hHeld => ?_)
  · exact hR
  refine tkH (v := ?_) 0 ⟨some 32, _, _, _, _, _⟩ rfl (Or.inl ⟨by rfl, ?_⟩) ?_
  rotate_left
  · intro w hSw; (try dsimp only at hSw); go_simp; try (with_reducible rfl)
  try simp only [Act.put, nz1, nz2, nz3]
  refine tkH (v := ?_) 1 ⟨some 33, _, _, _, _, _⟩ rfl (Or.inl ⟨by rfl, ?_⟩) ?_
  rotate_left
  · intro w hSw; (try dsimp only at hSw); go_simp; try (with_reducible rfl)
  try simp only [Act.put, nz1, nz2, nz3]
  refine tkH (v := ?_) 2 ⟨some 34, _, _, _, _, _⟩ rfl (Or.inl ⟨by rfl, ?_⟩) ?_
  rotate_left
  · intro w hSw; (try dsimp only at hSw); go_simp; try (with_reducible rfl)
  try simp only [Act.put, nz1, nz2, nz3]
  refine tkH (v := (.pointer (some ⟨C, 0, none⟩))) 3 ⟨some 35, _, _, _, _, _⟩ rfl (yields_one (by rfl) 28 _ rfl ⟨B, 548, none⟩ rfl _ _ (fun W' hS => hS.cell (i := 548) (by omega)) Try.underlying28 rfl) ?_
  try simp only [Act.put, nz1, nz2, nz3]
  refine tkH (v := ?_) 4 ⟨some 36, _, _, _, _, _⟩ rfl (Or.inl ⟨by rfl, ?_⟩) ?_
  rotate_left
  · intro w hSw; (try dsimp only at hSw); go_simp; try (with_reducible rfl)
  try simp only [Act.put, nz1, nz2, nz3]
  refine tkH (v := ?_) 5 ⟨some 37, _, _, _, _, _⟩ rfl (Or.inl ⟨by rfl, ?_⟩) ?_
  rotate_left
  · intro w hSw; (try dsimp only at hSw); go_simp; try (with_reducible rfl)
  try simp only [Act.put, nz1, nz2, nz3]
  refine tkH (v := ?_) 6 ⟨some 38, _, _, _, _, _⟩ rfl (Or.inl ⟨by rfl, ?_⟩) ?_
  rotate_left
  · intro w hSw; (try dsimp only at hSw); go_simp; try (with_reducible rfl)
  try simp only [Act.put, nz1, nz2, nz3]
  refine tkH (v := (.int .i64 (k : Int))) 7 ⟨some 39, _, _, _, _, _⟩ rfl (yields_one (by rfl) 3 _ rfl ⟨B, 3, none⟩ rfl _ _ (fun W' hS => by rw [hS.cell (i := 3) (by omega)]; show some (Value.int .i64 (s).round) = _; rw [HK.out]) Try.underlying3 rfl) ?_
  try simp only [Act.put, nz1, nz2, nz3]
  refine tkH (v := ?_) 9 ⟨some 41, _, _, _, _, _⟩ rfl (Or.inl ⟨by rfl, ?_⟩) ?_
  rotate_left
  · intro w hSw; (try dsimp only at hSw); go_simp; try (with_reducible rfl)
  try simp only [Act.put, nz1, nz2, nz3]
  refine wpAnyH_ready (rs := [8]) (by kernel_rfl) (by simp) ?_
  refine (AllReadyH.cons (o := ⟨some 40, _, _, _, _, _⟩) rfl (fun K hK => ?_) AllReadyH.nil)
  (try rw [if_pos (by rfl)])
  go_simp
  refine (HA1F.out _ hR).mono ?_
  rintro e Wn ⟨rfl, hbn⟩
  replace hR := hR.below hbn
  replace hO := hO.below hbn
  replace hG := hG.trans (grown_of_below hbn _)
  clear hbn
  try dsimp only
  refine hK.out _ _ (hR) (fun hHeld => ?_)
  clear hK K
  try simp only [Act.put, nz1, nz2, nz3]
  refine tkH (v := (.bool false)) 10 ⟨some 42, _, _, _, _, _⟩ rfl (yields_binR (by rfl) .geq 3 _ _ _ rfl (.int .i64 a1) (.int .i64 nd) rfl rfl _ (fun w => by rfl) (fun w => int_geq _ _ _ HA1.out w)) ?_
  try simp only [Act.put, nz1, nz2, nz3]
  refine wpAnyH_done (by kernel_rfl) ?_ _
  go_wp2_with fail
  go_ret
  exact ⟨⟨_, rfl, by simpa using hO⟩, hR, hG⟩
set_option maxRecDepth 100000 in
set_option maxHeartbeats 8000000 in
theorem wait_off_many {W : World} {B C M n : Nat} {kv : Value} {s : RdS} (h : RoundAt W B C M n kv s) (k : Nat) (hk : s.round = (k : Int)) (hk12 : k < 12) (hst : s.step ≠ 1) (hw2 : decide (need s.voters ≤ (allN s.voters s.votes (k : Int) 1 : Int)) = true) : Calls Try.prog 71 #[.pointer (some ⟨B, 0, none⟩)] W fun e w' => (∃ v, e = .returned v ∧ OwnA W.heap.size w' v ([] ++ timerA (s) k 2)) ∧ RoundAt w' B C M n kv (timerS (s) k 2) ∧ W.grownBy w' (some B) := by
  have hR := h
  have hO : OwnA W.heap.size W (.slice none 0 0) [] := ownA_nil _ _
  have hG : W.grownBy W (some B) := grown_of_below (Below.refl _ W) _
  have HL := Lib.hid h.low
  have HK := Lib.hid hk
  have HK1 : Hid ((timerS s k 1).round = (k : Int)) := Lib.hid (by rw [timerS_round, hk])
  have HALL : Hid (∀ (s' : RdS) (j : Int) W', 0 ≤ j ∧ j ≤ 1 → s'.voters = s.voters → s'.votes = s.votes → RoundAt W' B C M n kv s' → Calls Try.prog 24 #[.pointer (some ⟨C, 0, none⟩), .int .i64 (k : Int), .int .i64 j] W' fun e w' => e = .returned (.int .i64 (allN s.voters s.votes (k : Int) j : Int)) ∧ Below W'.heap.size W' w') := Lib.hid fun s' j W' hj e1 e2 hR => by
    have := all_any hR.cnt (k : Int) j (wfi_small (by omega) (by omega)) (wfi_small (by omega) (by omega)) hR.ok.voters.2.1
    rwa [e1, e2] at this
  have HA0F : Hid (∀ W', RoundAt W' B C M n kv s → Calls Try.prog 24 #[.pointer (some ⟨C, 0, none⟩), .int .i64 (k : Int), .int .i64 0] W' fun e w' => e = .returned (.int .i64 (allN s.voters s.votes (k : Int) 0 : Int)) ∧ Below W'.heap.size W' w') := Lib.hid fun W' hR => HALL.out s 0 W' ⟨by omega, by omega⟩ rfl rfl hR
  have HA1F : Hid (∀ W', RoundAt W' B C M n kv (s) → Calls Try.prog 24 #[.pointer (some ⟨C, 0, none⟩), .int .i64 (k : Int), .int .i64 1] W' fun e w' => e = .returned (.int .i64 (allN s.voters s.votes (k : Int) 1 : Int)) ∧ Below W'.heap.size W' w') := Lib.hid fun W' hR => HALL.out (s) 1 W' ⟨by omega, by omega⟩ rfl rfl hR
  clear HALL
  have HND : Hid (∀ w, Calls Try.prog 19 #[.int .i64 (s.voters : Int)] w fun e w' => e = .returned (.int .i64 (need s.voters)) ∧ w' = w) := Lib.hid fun w => need_any _ w
  generalize (allN s.voters s.votes (k : Int) 0 : Int) = a0 at HA0F 
  generalize (allN s.voters s.votes (k : Int) 1 : Int) = a1 at HA1F hw2
  generalize need s.voters = nd at HND  hw2
  skip
  have HA1 := Lib.hid hw2
  have c0 : W.cell? ⟨B, 0, none⟩ = some (.int .i64 (s.voters : Int)) := h.cell (i := 0) (by omega)
  clear h  hw2 hk hk12
  have hs1 : (s.step == 1) = false := by rw [beq_eq_false_iff_ne]; exact hst
  go_enter Try.func71, Try.ntmps71
  go_upto_region 3 with (first
    | (go_at_call 19; refine (HND.out _).mono ?_; rintro e Wn ⟨rfl, h1⟩; obtain rfl := h1.symm))
  clear c0
  replace hR := hR.drew
  replace hO := hO.drew
  replace hG := grown_drew hG
  refine wp_region_held_drew (S := fun W' => RoundAt W' B C M n kv s) (by kernel_rfl) ?_ (fun hHeld => ?_)
  · exact hR
  refine tkH (v := ?_) 0 ⟨some 10, _, _, _, _, _⟩ rfl (Or.inl ⟨by rfl, ?_⟩) ?_
  rotate_left
  · intro w hSw; (try dsimp only at hSw); go_simp; try (with_reducible rfl)
  try simp only [Act.put, nz1, nz2, nz3]
  refine tkH (v := ?_) 1 ⟨some 11, _, _, _, _, _⟩ rfl (Or.inl ⟨by rfl, ?_⟩) ?_
  rotate_left
  · intro w hSw; (try dsimp only at hSw); go_simp; try (with_reducible rfl)
  try simp only [Act.put, nz1, nz2, nz3]
  refine tkH (v := ?_) 2 ⟨some 12, _, _, _, _, _⟩ rfl (Or.inl ⟨by rfl, ?_⟩) ?_
  rotate_left
  · intro w hSw; (try dsimp only at hSw); go_simp; try (with_reducible rfl)
  try simp only [Act.put, nz1, nz2, nz3]
  refine tkH (v := (.int .i64 s.step)) 3 ⟨some 13, _, _, _, _, _⟩ rfl (yields_one (by rfl) 3 _ rfl ⟨B, 4, none⟩ rfl _ _ (fun W' hS => hS.cell (i := 4) (by omega)) Try.underlying3 rfl) ?_
  try simp only [Act.put, nz1, nz2, nz3]
  refine tkH (v := ?_) 4 ⟨some 14, _, _, _, _, _⟩ rfl (Or.inl ⟨by rfl, ?_⟩) ?_
  rotate_left
  · intro w hSw; (try dsimp only at hSw); go_simp; try (with_reducible rfl)
  try simp only [Act.put, nz1, nz2, nz3]
  refine tkH (v := ?_) 5 ⟨some 15, _, _, _, _, _⟩ rfl (Or.inl ⟨by rfl, ?_⟩) ?_
  rotate_left
  · intro w hSw; (try dsimp only at hSw); go_simp; try (with_reducible rfl)
  try simp only [Act.put, nz1, nz2, nz3]
  refine tkH (v := undef) 6 ⟨some 16, _, _, _, _, _⟩ rfl (Or.inr ⟨by rfl, rfl⟩) ?_
  try simp only [Act.put, nz1, nz2, nz3]
  refine tkH (v := undef) 7 ⟨some 17, _, _, _, _, _⟩ rfl (Or.inr ⟨by rfl, rfl⟩) ?_
  try simp only [Act.put, nz1, nz2, nz3]
  refine tkH (v := undef) 8 ⟨some 18, _, _, _, _, _⟩ rfl (Or.inr ⟨by rfl, rfl⟩) ?_
  try simp only [Act.put, nz1, nz2, nz3]
  refine tkH (v := undef) 9 ⟨some 19, _, _, _, _, _⟩ rfl (Or.inr ⟨by rfl, rfl⟩) ?_
  try simp only [Act.put, nz1, nz2, nz3]
  refine tkH (v := undef) 10 ⟨some 20, _, _, _, _, _⟩ rfl (Or.inr ⟨by rfl, rfl⟩) ?_
  try simp only [Act.put, nz1, nz2, nz3]
  refine tkH (v := undef) 11 ⟨some 21, _, _, _, _, _⟩ rfl (Or.inr ⟨by rfl, rfl⟩) ?_
  try simp only [Act.put, nz1, nz2, nz3]
  refine tkH (v := undef) 12 ⟨some 22, _, _, _, _, _⟩ rfl (Or.inr ⟨by rfl, rfl⟩) ?_
  try simp only [Act.put, nz1, nz2, nz3]
  refine tkH (v := undef) 13 ⟨some 23, _, _, _, _, _⟩ rfl (Or.inr ⟨by rfl, rfl⟩) ?_
  try simp only [Act.put, nz1, nz2, nz3]
  refine tkH (v := undef) 14 ⟨some 24, _, _, _, _, _⟩ rfl (Or.inr ⟨by rfl, rfl⟩) ?_
  try simp only [Act.put, nz1, nz2, nz3]
  refine tkH (v := undef) 15 ⟨some 25, _, _, _, _, _⟩ rfl (Or.inr ⟨by rfl, rfl⟩) ?_
  try simp only [Act.put, nz1, nz2, nz3]
  refine tkH (v := undef) 16 ⟨some 26, _, _, _, _, _⟩ rfl (Or.inr ⟨by rfl, rfl⟩) ?_
  try simp only [Act.put, nz1, nz2, nz3]
  refine tkH (v := ?_) 17 ⟨some 27, _, _, _, _, _⟩ rfl (Or.inl ⟨by rfl, ?_⟩) ?_
  rotate_left
  · intro w hSw; (try dsimp only at hSw); go_simp; try (with_reducible rfl)
  try simp only [Act.put, nz1, nz2, nz3]
  refine wpAnyH_done (by kernel_rfl) ?_ _
  go_upto_region 5 with fail
  replace hR := hR.drew
  replace hO := hO.drew
  replace hG := grown_drew hG
  refine wp_region_held_drew (S := fun W' => RoundAt W' B C M n kv (s)) (by kernel_rfl) ?_ (fun hHeld => ?_)
  · exact hR
  refine tkH (v := ?_) 0 ⟨some 32, _, _, _, _, _⟩ rfl (Or.inl ⟨by rfl, ?_⟩) ?_
  rotate_left
  · intro w hSw; (try dsimp only at hSw); go_simp; try (with_reducible rfl)
  try simp only [Act.put, nz1, nz2, nz3]
  refine tkH (v := ?_) 1 ⟨some 33, _, _, _, _, _⟩ rfl (Or.inl ⟨by rfl, ?_⟩) ?_
  rotate_left
  · intro w hSw; (try dsimp only at hSw); go_simp; try (with_reducible rfl)
  try simp only [Act.put, nz1, nz2, nz3]
  refine tkH (v := ?_) 2 ⟨some 34, _, _, _, _, _⟩ rfl (Or.inl ⟨by rfl, ?_⟩) ?_
  rotate_left
  · intro w hSw; (try dsimp only at hSw); go_simp; try (with_reducible rfl)
  try simp only [Act.put, nz1, nz2, nz3]
  refine tkH (v := (.pointer (some ⟨C, 0, none⟩))) 3 ⟨some 35, _, _, _, _, _⟩ rfl (yields_one (by rfl) 28 _ rfl ⟨B, 548, none⟩ rfl _ _ (fun W' hS => hS.cell (i := 548) (by omega)) Try.underlying28 rfl) ?_
  try simp only [Act.put, nz1, nz2, nz3]
  refine tkH (v := ?_) 4 ⟨some 36, _, _, _, _, _⟩ rfl (Or.inl ⟨by rfl, ?_⟩) ?_
  rotate_left
  · intro w hSw; (try dsimp only at hSw); go_simp; try (with_reducible rfl)
  try simp only [Act.put, nz1, nz2, nz3]
  refine tkH (v := ?_) 5 ⟨some 37, _, _, _, _, _⟩ rfl (Or.inl ⟨by rfl, ?_⟩) ?_
  rotate_left
  · intro w hSw; (try dsimp only at hSw); go_simp; try (with_reducible rfl)
  try simp only [Act.put, nz1, nz2, nz3]
  refine tkH (v := ?_) 6 ⟨some 38, _, _, _, _, _⟩ rfl (Or.inl ⟨by rfl, ?_⟩) ?_
  rotate_left
  · intro w hSw; (try dsimp only at hSw); go_simp; try (with_reducible rfl)
  try simp only [Act.put, nz1, nz2, nz3]
  refine tkH (v := (.int .i64 (k : Int))) 7 ⟨some 39, _, _, _, _, _⟩ rfl (yields_one (by rfl) 3 _ rfl ⟨B, 3, none⟩ rfl _ _ (fun W' hS => by rw [hS.cell (i := 3) (by omega)]; show some (Value.int .i64 (s).round) = _; rw [HK.out]) Try.underlying3 rfl) ?_
  try simp only [Act.put, nz1, nz2, nz3]
  refine tkH (v := ?_) 9 ⟨some 41, _, _, _, _, _⟩ rfl (Or.inl ⟨by rfl, ?_⟩) ?_
  rotate_left
  · intro w hSw; (try dsimp only at hSw); go_simp; try (with_reducible rfl)
  try simp only [Act.put, nz1, nz2, nz3]
  refine wpAnyH_ready (rs := [8]) (by kernel_rfl) (by simp) ?_
  refine (AllReadyH.cons (o := ⟨some 40, _, _, _, _, _⟩) rfl (fun K hK => ?_) AllReadyH.nil)
  (try rw [if_pos (by rfl)])
  go_simp
  refine (HA1F.out _ hR).mono ?_
  rintro e Wn ⟨rfl, hbn⟩
  replace hR := hR.below hbn
  replace hO := hO.below hbn
  replace hG := hG.trans (grown_of_below hbn _)
  clear hbn
  try dsimp only
  refine hK.out _ _ (hR) (fun hHeld => ?_)
  clear hK K
  try simp only [Act.put, nz1, nz2, nz3]
  refine tkH (v := (.bool true)) 10 ⟨some 42, _, _, _, _, _⟩ rfl (yields_binR (by rfl) .geq 3 _ _ _ rfl (.int .i64 a1) (.int .i64 nd) rfl rfl _ (fun w => by rfl) (fun w => int_geq _ _ _ HA1.out w)) ?_
  try simp only [Act.put, nz1, nz2, nz3]
  refine wpAnyH_done (by kernel_rfl) ?_ _
  go_wp2_with (first
    | (go_at_call 73; refine (timer_any hR k 2 HK.out (by omega)).mono ?_; rintro e Wt ⟨⟨vt, rfl, hat⟩, hrt, hgt⟩; replace hO := hO.grown hgt HL.out.B; replace hG := hG.trans hgt; replace hR := hrt; clear hgt)
    | (at_builtin; obtain ⟨vq, Wq, hrun, how, hgq, hoq⟩ := app_own hG.size hO hat.own (by have := timerA_len (s) k 2; simp; omega); replace hR := hR.grownO HL.out hgq hoq; replace hG := grown_new hG hgq hoq; clear hO; have hO := how; refine wpList_append_run rfl _ _ _ _ rfl _ _ rfl rfl _ _ hrun ?_; clear hrun how hgq hoq hat))
  go_ret
  exact ⟨⟨_, rfl, by simpa using hO⟩, hR, hG⟩
set_option maxRecDepth 100000 in
set_option maxHeartbeats 8000000 in
theorem wait_few_few {W : World} {B C M n : Nat} {kv : Value} {s : RdS} (h : RoundAt W B C M n kv s) (k : Nat) (hk : s.round = (k : Int)) (hk12 : k < 12) (hst : s.step = 1) (hw1 : decide (need s.voters ≤ (allN s.voters s.votes (k : Int) 0 : Int)) = false) (hw2 : decide (need s.voters ≤ (allN s.voters s.votes (k : Int) 1 : Int)) = false) : Calls Try.prog 71 #[.pointer (some ⟨B, 0, none⟩)] W fun e w' => (∃ v, e = .returned v ∧ OwnA W.heap.size w' v ([] ++ [])) ∧ RoundAt w' B C M n kv (s) ∧ W.grownBy w' (some B) := by
  have hR := h
  have hO : OwnA W.heap.size W (.slice none 0 0) [] := ownA_nil _ _
  have hG : W.grownBy W (some B) := grown_of_below (Below.refl _ W) _
  have HL := Lib.hid h.low
  have HK := Lib.hid hk
  have HK1 : Hid ((timerS s k 1).round = (k : Int)) := Lib.hid (by rw [timerS_round, hk])
  have HALL : Hid (∀ (s' : RdS) (j : Int) W', 0 ≤ j ∧ j ≤ 1 → s'.voters = s.voters → s'.votes = s.votes → RoundAt W' B C M n kv s' → Calls Try.prog 24 #[.pointer (some ⟨C, 0, none⟩), .int .i64 (k : Int), .int .i64 j] W' fun e w' => e = .returned (.int .i64 (allN s.voters s.votes (k : Int) j : Int)) ∧ Below W'.heap.size W' w') := Lib.hid fun s' j W' hj e1 e2 hR => by
    have := all_any hR.cnt (k : Int) j (wfi_small (by omega) (by omega)) (wfi_small (by omega) (by omega)) hR.ok.voters.2.1
    rwa [e1, e2] at this
  have HA0F : Hid (∀ W', RoundAt W' B C M n kv s → Calls Try.prog 24 #[.pointer (some ⟨C, 0, none⟩), .int .i64 (k : Int), .int .i64 0] W' fun e w' => e = .returned (.int .i64 (allN s.voters s.votes (k : Int) 0 : Int)) ∧ Below W'.heap.size W' w') := Lib.hid fun W' hR => HALL.out s 0 W' ⟨by omega, by omega⟩ rfl rfl hR
  have HA1F : Hid (∀ W', RoundAt W' B C M n kv (s) → Calls Try.prog 24 #[.pointer (some ⟨C, 0, none⟩), .int .i64 (k : Int), .int .i64 1] W' fun e w' => e = .returned (.int .i64 (allN s.voters s.votes (k : Int) 1 : Int)) ∧ Below W'.heap.size W' w') := Lib.hid fun W' hR => HALL.out (s) 1 W' ⟨by omega, by omega⟩ rfl rfl hR
  clear HALL
  have HND : Hid (∀ w, Calls Try.prog 19 #[.int .i64 (s.voters : Int)] w fun e w' => e = .returned (.int .i64 (need s.voters)) ∧ w' = w) := Lib.hid fun w => need_any _ w
  generalize (allN s.voters s.votes (k : Int) 0 : Int) = a0 at HA0F hw1
  generalize (allN s.voters s.votes (k : Int) 1 : Int) = a1 at HA1F hw2
  generalize need s.voters = nd at HND hw1 hw2
  have HA0 := Lib.hid hw1
  have HA1 := Lib.hid hw2
  have c0 : W.cell? ⟨B, 0, none⟩ = some (.int .i64 (s.voters : Int)) := h.cell (i := 0) (by omega)
  clear h hw1 hw2 hk hk12
  have HST := Lib.hid hst
  clear hst
  go_enter Try.func71, Try.ntmps71
  go_upto_region 3 with (first
    | (go_at_call 19; refine (HND.out _).mono ?_; rintro e Wn ⟨rfl, h1⟩; obtain rfl := h1.symm))
  clear c0
  replace hR := hR.drew
  replace hO := hO.drew
  replace hG := grown_drew hG
  refine wp_region_held_drew (S := fun W' => RoundAt W' B C M n kv s) (by kernel_rfl) ?_ (fun hHeld => ?_)
  · exact hR
  refine tkH (v := ?_) 0 ⟨some 10, _, _, _, _, _⟩ rfl (Or.inl ⟨by rfl, ?_⟩) ?_
  rotate_left
  · intro w hSw; (try dsimp only at hSw); go_simp; try (with_reducible rfl)
  try simp only [Act.put, nz1, nz2, nz3]
  refine tkH (v := ?_) 1 ⟨some 11, _, _, _, _, _⟩ rfl (Or.inl ⟨by rfl, ?_⟩) ?_
  rotate_left
  · intro w hSw; (try dsimp only at hSw); go_simp; try (with_reducible rfl)
  try simp only [Act.put, nz1, nz2, nz3]
  refine tkH (v := ?_) 2 ⟨some 12, _, _, _, _, _⟩ rfl (Or.inl ⟨by rfl, ?_⟩) ?_
  rotate_left
  · intro w hSw; (try dsimp only at hSw); go_simp; try (with_reducible rfl)
  try simp only [Act.put, nz1, nz2, nz3]
  refine tkH (v := (.int .i64 1)) 3 ⟨some 13, _, _, _, _, _⟩ rfl (yields_one (by rfl) 3 _ rfl ⟨B, 4, none⟩ rfl _ _ (fun W' hS => by rw [hS.cell (i := 4) (by omega)]; show some (Value.int .i64 s.step) = _; rw [HST.out]) Try.underlying3 rfl) ?_
  try simp only [Act.put, nz1, nz2, nz3]
  refine tkH (v := ?_) 4 ⟨some 14, _, _, _, _, _⟩ rfl (Or.inl ⟨by rfl, ?_⟩) ?_
  rotate_left
  · intro w hSw; (try dsimp only at hSw); go_simp; try (with_reducible rfl)
  try simp only [Act.put, nz1, nz2, nz3]
  refine tkH (v := ?_) 5 ⟨some 15, _, _, _, _, _⟩ rfl (Or.inl ⟨by rfl, ?_⟩) ?_
  rotate_left
  · intro w hSw; (try dsimp only at hSw); go_simp; try (with_reducible rfl)
  try simp only [Act.put, nz1, nz2, nz3]
  refine tkH (v := ?_) 6 ⟨some 16, _, _, _, _, _⟩ rfl (Or.inl ⟨by rfl, ?_⟩) ?_
  rotate_left
  · intro w hSw; (try dsimp only at hSw); go_simp; try (with_reducible rfl)
  try simp only [Act.put, nz1, nz2, nz3]
  refine tkH (v := ?_) 7 ⟨some 17, _, _, _, _, _⟩ rfl (Or.inl ⟨by rfl, ?_⟩) ?_
  rotate_left
  · intro w hSw; (try dsimp only at hSw); go_simp; try (with_reducible rfl)
  try simp only [Act.put, nz1, nz2, nz3]
  refine tkH (v := ?_) 8 ⟨some 18, _, _, _, _, _⟩ rfl (Or.inl ⟨by rfl, ?_⟩) ?_
  rotate_left
  · intro w hSw; (try dsimp only at hSw); go_simp; try (with_reducible rfl)
  try simp only [Act.put, nz1, nz2, nz3]
  refine tkH (v := (.pointer (some ⟨C, 0, none⟩))) 9 ⟨some 19, _, _, _, _, _⟩ rfl (yields_one (by rfl) 28 _ rfl ⟨B, 548, none⟩ rfl _ _ (fun W' hS => hS.cell (i := 548) (by omega)) Try.underlying28 rfl) ?_
  try simp only [Act.put, nz1, nz2, nz3]
  refine tkH (v := ?_) 10 ⟨some 20, _, _, _, _, _⟩ rfl (Or.inl ⟨by rfl, ?_⟩) ?_
  rotate_left
  · intro w hSw; (try dsimp only at hSw); go_simp; try (with_reducible rfl)
  try simp only [Act.put, nz1, nz2, nz3]
  refine tkH (v := ?_) 11 ⟨some 21, _, _, _, _, _⟩ rfl (Or.inl ⟨by rfl, ?_⟩) ?_
  rotate_left
  · intro w hSw; (try dsimp only at hSw); go_simp; try (with_reducible rfl)
  try simp only [Act.put, nz1, nz2, nz3]
  refine tkH (v := ?_) 12 ⟨some 22, _, _, _, _, _⟩ rfl (Or.inl ⟨by rfl, ?_⟩) ?_
  rotate_left
  · intro w hSw; (try dsimp only at hSw); go_simp; try (with_reducible rfl)
  try simp only [Act.put, nz1, nz2, nz3]
  refine tkH (v := (.int .i64 (k : Int))) 13 ⟨some 23, _, _, _, _, _⟩ rfl (yields_one (by rfl) 3 _ rfl ⟨B, 3, none⟩ rfl _ _ (fun W' hS => by rw [hS.cell (i := 3) (by omega)]; show some (Value.int .i64 (s).round) = _; rw [HK.out]) Try.underlying3 rfl) ?_
  try simp only [Act.put, nz1, nz2, nz3]
  refine tkH (v := ?_) 15 ⟨some 25, _, _, _, _, _⟩ rfl (Or.inl ⟨by rfl, ?_⟩) ?_
  rotate_left
  · intro w hSw; (try dsimp only at hSw); go_simp; try (with_reducible rfl)
  try simp only [Act.put, nz1, nz2, nz3]
  refine wpAnyH_ready (rs := [14]) (by kernel_rfl) (by simp) ?_
  refine (AllReadyH.cons (o := ⟨some 24, _, _, _, _, _⟩) rfl (fun K hK => ?_) AllReadyH.nil)
  (try rw [if_pos (by rfl)])
  go_simp
  refine (HA0F.out _ hR).mono ?_
  rintro e Wn ⟨rfl, hbn⟩
  replace hR := hR.below hbn
  replace hO := hO.below hbn
  replace hG := hG.trans (grown_of_below hbn _)
  clear hbn
  try dsimp only
  refine hK.out _ _ (hR) (fun hHeld => ?_)
  clear hK K
  try simp only [Act.put, nz1, nz2, nz3]
  refine tkH (v := (.bool false)) 16 ⟨some 26, _, _, _, _, _⟩ rfl (yields_binR (by rfl) .geq 3 _ _ _ rfl (.int .i64 a0) (.int .i64 nd) rfl rfl _ (fun w => by rfl) (fun w => int_geq _ _ _ HA0.out w)) ?_
  try simp only [Act.put, nz1, nz2, nz3]
  refine tkH (v := ?_) 17 ⟨some 27, _, _, _, _, _⟩ rfl (Or.inl ⟨by rfl, ?_⟩) ?_
  rotate_left
  · intro w hSw; (try dsimp only at hSw); go_simp; try (with_reducible rfl)
  try simp only [Act.put, nz1, nz2, nz3]
  refine wpAnyH_done (by kernel_rfl) ?_ _
  go_upto_region 5 with fail
  replace hR := hR.drew
  replace hO := hO.drew
  replace hG := grown_drew hG
  refine wp_region_held_drew (S := fun W' => RoundAt W' B C M n kv (s)) (by kernel_rfl) ?_ (fun hHeld => ?_)
  · exact hR
  refine tkH (v := ?_) 0 ⟨some 32, _, _, _, _, _⟩ rfl (Or.inl ⟨by rfl, ?_⟩) ?_
  rotate_left
  · intro w hSw; (try dsimp only at hSw); go_simp; try (with_reducible rfl)
  try simp only [Act.put, nz1, nz2, nz3]
  refine tkH (v := ?_) 1 ⟨some 33, _, _, _, _, _⟩ rfl (Or.inl ⟨by rfl, ?_⟩) ?_
  rotate_left
  · intro w hSw; (try dsimp only at hSw); go_simp; try (with_reducible rfl)
  try simp only [Act.put, nz1, nz2, nz3]
  refine tkH (v := ?_) 2 ⟨some 34, _, _, _, _, _⟩ rfl (Or.inl ⟨by rfl, ?_⟩) ?_
  rotate_left
  · intro w hSw; (try dsimp only at hSw); go_simp; try (with_reducible rfl)
  try simp only [Act.put, nz1, nz2, nz3]
  refine tkH (v := (.pointer (some ⟨C, 0, none⟩))) 3 ⟨some 35, _, _, _, _, _⟩ rfl (yields_one (by rfl) 28 _ rfl ⟨B, 548, none⟩ rfl _ _ (fun W' hS => hS.cell (i := 548) (by omega)) Try.underlying28 rfl) ?_
  try simp only [Act.put, nz1, nz2, nz3]
  refine tkH (v := ?_) 4 ⟨some 36, _, _, _, _, _⟩ rfl (Or.inl ⟨by rfl, ?_⟩) ?_
  rotate_left
  · intro w hSw; (try dsimp only at hSw); go_simp; try (with_reducible rfl)
  try simp only [Act.put, nz1, nz2, nz3]
  refine tkH (v := ?_) 5 ⟨some 37, _, _, _, _, _⟩ rfl (Or.inl ⟨by rfl, ?_⟩) ?_
  rotate_left
  · intro w hSw; (try dsimp only at hSw); go_simp; try (with_reducible rfl)
  try simp only [Act.put, nz1, nz2, nz3]
  refine tkH (v := ?_) 6 ⟨some 38, _, _, _, _, _⟩ rfl (Or.inl ⟨by rfl, ?_⟩) ?_
  rotate_left
  · intro w hSw; (try dsimp only at hSw); go_simp; try (with_reducible rfl)
  try simp only [Act.put, nz1, nz2, nz3]
  refine tkH (v := (.int .i64 (k : Int))) 7 ⟨some 39, _, _, _, _, _⟩ rfl (yields_one (by rfl) 3 _ rfl ⟨B, 3, none⟩ rfl _ _ (fun W' hS => by rw [hS.cell (i := 3) (by omega)]; show some (Value.int .i64 (s).round) = _; rw [HK.out]) Try.underlying3 rfl) ?_
  try simp only [Act.put, nz1, nz2, nz3]
  refine tkH (v := ?_) 9 ⟨some 41, _, _, _, _, _⟩ rfl (Or.inl ⟨by rfl, ?_⟩) ?_
  rotate_left
  · intro w hSw; (try dsimp only at hSw); go_simp; try (with_reducible rfl)
  try simp only [Act.put, nz1, nz2, nz3]
  refine wpAnyH_ready (rs := [8]) (by kernel_rfl) (by simp) ?_
  refine (AllReadyH.cons (o := ⟨some 40, _, _, _, _, _⟩) rfl (fun K hK => ?_) AllReadyH.nil)
  (try rw [if_pos (by rfl)])
  go_simp
  refine (HA1F.out _ hR).mono ?_
  rintro e Wn ⟨rfl, hbn⟩
  replace hR := hR.below hbn
  replace hO := hO.below hbn
  replace hG := hG.trans (grown_of_below hbn _)
  clear hbn
  try dsimp only
  refine hK.out _ _ (hR) (fun hHeld => ?_)
  clear hK K
  try simp only [Act.put, nz1, nz2, nz3]
  refine tkH (v := (.bool false)) 10 ⟨some 42, _, _, _, _, _⟩ rfl (yields_binR (by rfl) .geq 3 _ _ _ rfl (.int .i64 a1) (.int .i64 nd) rfl rfl _ (fun w => by rfl) (fun w => int_geq _ _ _ HA1.out w)) ?_
  try simp only [Act.put, nz1, nz2, nz3]
  refine wpAnyH_done (by kernel_rfl) ?_ _
  go_wp2_with fail
  go_ret
  exact ⟨⟨_, rfl, by simpa using hO⟩, hR, hG⟩
set_option maxRecDepth 100000 in
set_option maxHeartbeats 8000000 in
theorem wait_few_many {W : World} {B C M n : Nat} {kv : Value} {s : RdS} (h : RoundAt W B C M n kv s) (k : Nat) (hk : s.round = (k : Int)) (hk12 : k < 12) (hst : s.step = 1) (hw1 : decide (need s.voters ≤ (allN s.voters s.votes (k : Int) 0 : Int)) = false) (hw2 : decide (need s.voters ≤ (allN s.voters s.votes (k : Int) 1 : Int)) = true) : Calls Try.prog 71 #[.pointer (some ⟨B, 0, none⟩)] W fun e w' => (∃ v, e = .returned v ∧ OwnA W.heap.size w' v ([] ++ timerA (s) k 2)) ∧ RoundAt w' B C M n kv (timerS (s) k 2) ∧ W.grownBy w' (some B) := by
  have hR := h
  have hO : OwnA W.heap.size W (.slice none 0 0) [] := ownA_nil _ _
  have hG : W.grownBy W (some B) := grown_of_below (Below.refl _ W) _
  have HL := Lib.hid h.low
  have HK := Lib.hid hk
  have HK1 : Hid ((timerS s k 1).round = (k : Int)) := Lib.hid (by rw [timerS_round, hk])
  have HALL : Hid (∀ (s' : RdS) (j : Int) W', 0 ≤ j ∧ j ≤ 1 → s'.voters = s.voters → s'.votes = s.votes → RoundAt W' B C M n kv s' → Calls Try.prog 24 #[.pointer (some ⟨C, 0, none⟩), .int .i64 (k : Int), .int .i64 j] W' fun e w' => e = .returned (.int .i64 (allN s.voters s.votes (k : Int) j : Int)) ∧ Below W'.heap.size W' w') := Lib.hid fun s' j W' hj e1 e2 hR => by
    have := all_any hR.cnt (k : Int) j (wfi_small (by omega) (by omega)) (wfi_small (by omega) (by omega)) hR.ok.voters.2.1
    rwa [e1, e2] at this
  have HA0F : Hid (∀ W', RoundAt W' B C M n kv s → Calls Try.prog 24 #[.pointer (some ⟨C, 0, none⟩), .int .i64 (k : Int), .int .i64 0] W' fun e w' => e = .returned (.int .i64 (allN s.voters s.votes (k : Int) 0 : Int)) ∧ Below W'.heap.size W' w') := Lib.hid fun W' hR => HALL.out s 0 W' ⟨by omega, by omega⟩ rfl rfl hR
  have HA1F : Hid (∀ W', RoundAt W' B C M n kv (s) → Calls Try.prog 24 #[.pointer (some ⟨C, 0, none⟩), .int .i64 (k : Int), .int .i64 1] W' fun e w' => e = .returned (.int .i64 (allN s.voters s.votes (k : Int) 1 : Int)) ∧ Below W'.heap.size W' w') := Lib.hid fun W' hR => HALL.out (s) 1 W' ⟨by omega, by omega⟩ rfl rfl hR
  clear HALL
  have HND : Hid (∀ w, Calls Try.prog 19 #[.int .i64 (s.voters : Int)] w fun e w' => e = .returned (.int .i64 (need s.voters)) ∧ w' = w) := Lib.hid fun w => need_any _ w
  generalize (allN s.voters s.votes (k : Int) 0 : Int) = a0 at HA0F hw1
  generalize (allN s.voters s.votes (k : Int) 1 : Int) = a1 at HA1F hw2
  generalize need s.voters = nd at HND hw1 hw2
  have HA0 := Lib.hid hw1
  have HA1 := Lib.hid hw2
  have c0 : W.cell? ⟨B, 0, none⟩ = some (.int .i64 (s.voters : Int)) := h.cell (i := 0) (by omega)
  clear h hw1 hw2 hk hk12
  have HST := Lib.hid hst
  clear hst
  go_enter Try.func71, Try.ntmps71
  go_upto_region 3 with (first
    | (go_at_call 19; refine (HND.out _).mono ?_; rintro e Wn ⟨rfl, h1⟩; obtain rfl := h1.symm))
  clear c0
  replace hR := hR.drew
  replace hO := hO.drew
  replace hG := grown_drew hG
  refine wp_region_held_drew (S := fun W' => RoundAt W' B C M n kv s) (by kernel_rfl) ?_ (fun hHeld => ?_)
  · exact hR
  refine tkH (v := ?_) 0 ⟨some 10, _, _, _, _, _⟩ rfl (Or.inl ⟨by rfl, ?_⟩) ?_
  rotate_left
  · intro w hSw; (try dsimp only at hSw); go_simp; try (with_reducible rfl)
  try simp only [Act.put, nz1, nz2, nz3]
  refine tkH (v := ?_) 1 ⟨some 11, _, _, _, _, _⟩ rfl (Or.inl ⟨by rfl, ?_⟩) ?_
  rotate_left
  · intro w hSw; (try dsimp only at hSw); go_simp; try (with_reducible rfl)
  try simp only [Act.put, nz1, nz2, nz3]
  refine tkH (v := ?_) 2 ⟨some 12, _, _, _, _, _⟩ rfl (Or.inl ⟨by rfl, ?_⟩) ?_
  rotate_left
  · intro w hSw; (try dsimp only at hSw); go_simp; try (with_reducible rfl)
  try simp only [Act.put, nz1, nz2, nz3]
  refine tkH (v := (.int .i64 1)) 3 ⟨some 13, _, _, _, _, _⟩ rfl (yields_one (by rfl) 3 _ rfl ⟨B, 4, none⟩ rfl _ _ (fun W' hS => by rw [hS.cell (i := 4) (by omega)]; show some (Value.int .i64 s.step) = _; rw [HST.out]) Try.underlying3 rfl) ?_
  try simp only [Act.put, nz1, nz2, nz3]
  refine tkH (v := ?_) 4 ⟨some 14, _, _, _, _, _⟩ rfl (Or.inl ⟨by rfl, ?_⟩) ?_
  rotate_left
  · intro w hSw; (try dsimp only at hSw); go_simp; try (with_reducible rfl)
  try simp only [Act.put, nz1, nz2, nz3]
  refine tkH (v := ?_) 5 ⟨some 15, _, _, _, _, _⟩ rfl (Or.inl ⟨by rfl, ?_⟩) ?_
  rotate_left
  · intro w hSw; (try dsimp only at hSw); go_simp; try (with_reducible rfl)
  try simp only [Act.put, nz1, nz2, nz3]
  refine tkH (v := ?_) 6 ⟨some 16, _, _, _, _, _⟩ rfl (Or.inl ⟨by rfl, ?_⟩) ?_
  rotate_left
  · intro w hSw; (try dsimp only at hSw); go_simp; try (with_reducible rfl)
  try simp only [Act.put, nz1, nz2, nz3]
  refine tkH (v := ?_) 7 ⟨some 17, _, _, _, _, _⟩ rfl (Or.inl ⟨by rfl, ?_⟩) ?_
  rotate_left
  · intro w hSw; (try dsimp only at hSw); go_simp; try (with_reducible rfl)
  try simp only [Act.put, nz1, nz2, nz3]
  refine tkH (v := ?_) 8 ⟨some 18, _, _, _, _, _⟩ rfl (Or.inl ⟨by rfl, ?_⟩) ?_
  rotate_left
  · intro w hSw; (try dsimp only at hSw); go_simp; try (with_reducible rfl)
  try simp only [Act.put, nz1, nz2, nz3]
  refine tkH (v := (.pointer (some ⟨C, 0, none⟩))) 9 ⟨some 19, _, _, _, _, _⟩ rfl (yields_one (by rfl) 28 _ rfl ⟨B, 548, none⟩ rfl _ _ (fun W' hS => hS.cell (i := 548) (by omega)) Try.underlying28 rfl) ?_
  try simp only [Act.put, nz1, nz2, nz3]
  refine tkH (v := ?_) 10 ⟨some 20, _, _, _, _, _⟩ rfl (Or.inl ⟨by rfl, ?_⟩) ?_
  rotate_left
  · intro w hSw; (try dsimp only at hSw); go_simp; try (with_reducible rfl)
  try simp only [Act.put, nz1, nz2, nz3]
  refine tkH (v := ?_) 11 ⟨some 21, _, _, _, _, _⟩ rfl (Or.inl ⟨by rfl, ?_⟩) ?_
  rotate_left
  · intro w hSw; (try dsimp only at hSw); go_simp; try (with_reducible rfl)
  try simp only [Act.put, nz1, nz2, nz3]
  refine tkH (v := ?_) 12 ⟨some 22, _, _, _, _, _⟩ rfl (Or.inl ⟨by rfl, ?_⟩) ?_
  rotate_left
  · intro w hSw; (try dsimp only at hSw); go_simp; try (with_reducible rfl)
  try simp only [Act.put, nz1, nz2, nz3]
  refine tkH (v := (.int .i64 (k : Int))) 13 ⟨some 23, _, _, _, _, _⟩ rfl (yields_one (by rfl) 3 _ rfl ⟨B, 3, none⟩ rfl _ _ (fun W' hS => by rw [hS.cell (i := 3) (by omega)]; show some (Value.int .i64 (s).round) = _; rw [HK.out]) Try.underlying3 rfl) ?_
  try simp only [Act.put, nz1, nz2, nz3]
  refine tkH (v := ?_) 15 ⟨some 25, _, _, _, _, _⟩ rfl (Or.inl ⟨by rfl, ?_⟩) ?_
  rotate_left
  · intro w hSw; (try dsimp only at hSw); go_simp; try (with_reducible rfl)
  try simp only [Act.put, nz1, nz2, nz3]
  refine wpAnyH_ready (rs := [14]) (by kernel_rfl) (by simp) ?_
  refine (AllReadyH.cons (o := ⟨some 24, _, _, _, _, _⟩) rfl (fun K hK => ?_) AllReadyH.nil)
  (try rw [if_pos (by rfl)])
  go_simp
  refine (HA0F.out _ hR).mono ?_
  rintro e Wn ⟨rfl, hbn⟩
  replace hR := hR.below hbn
  replace hO := hO.below hbn
  replace hG := hG.trans (grown_of_below hbn _)
  clear hbn
  try dsimp only
  refine hK.out _ _ (hR) (fun hHeld => ?_)
  clear hK K
  try simp only [Act.put, nz1, nz2, nz3]
  refine tkH (v := (.bool false)) 16 ⟨some 26, _, _, _, _, _⟩ rfl (yields_binR (by rfl) .geq 3 _ _ _ rfl (.int .i64 a0) (.int .i64 nd) rfl rfl _ (fun w => by rfl) (fun w => int_geq _ _ _ HA0.out w)) ?_
  try simp only [Act.put, nz1, nz2, nz3]
  refine tkH (v := ?_) 17 ⟨some 27, _, _, _, _, _⟩ rfl (Or.inl ⟨by rfl, ?_⟩) ?_
  rotate_left
  · intro w hSw; (try dsimp only at hSw); go_simp; try (with_reducible rfl)
  try simp only [Act.put, nz1, nz2, nz3]
  refine wpAnyH_done (by kernel_rfl) ?_ _
  go_upto_region 5 with fail
  replace hR := hR.drew
  replace hO := hO.drew
  replace hG := grown_drew hG
  refine wp_region_held_drew (S := fun W' => RoundAt W' B C M n kv (s)) (by kernel_rfl) ?_ (fun hHeld => ?_)
  · exact hR
  refine tkH (v := ?_) 0 ⟨some 32, _, _, _, _, _⟩ rfl (Or.inl ⟨by rfl, ?_⟩) ?_
  rotate_left
  · intro w hSw; (try dsimp only at hSw); go_simp; try (with_reducible rfl)
  try simp only [Act.put, nz1, nz2, nz3]
  refine tkH (v := ?_) 1 ⟨some 33, _, _, _, _, _⟩ rfl (Or.inl ⟨by rfl, ?_⟩) ?_
  rotate_left
  · intro w hSw; (try dsimp only at hSw); go_simp; try (with_reducible rfl)
  try simp only [Act.put, nz1, nz2, nz3]
  refine tkH (v := ?_) 2 ⟨some 34, _, _, _, _, _⟩ rfl (Or.inl ⟨by rfl, ?_⟩) ?_
  rotate_left
  · intro w hSw; (try dsimp only at hSw); go_simp; try (with_reducible rfl)
  try simp only [Act.put, nz1, nz2, nz3]
  refine tkH (v := (.pointer (some ⟨C, 0, none⟩))) 3 ⟨some 35, _, _, _, _, _⟩ rfl (yields_one (by rfl) 28 _ rfl ⟨B, 548, none⟩ rfl _ _ (fun W' hS => hS.cell (i := 548) (by omega)) Try.underlying28 rfl) ?_
  try simp only [Act.put, nz1, nz2, nz3]
  refine tkH (v := ?_) 4 ⟨some 36, _, _, _, _, _⟩ rfl (Or.inl ⟨by rfl, ?_⟩) ?_
  rotate_left
  · intro w hSw; (try dsimp only at hSw); go_simp; try (with_reducible rfl)
  try simp only [Act.put, nz1, nz2, nz3]
  refine tkH (v := ?_) 5 ⟨some 37, _, _, _, _, _⟩ rfl (Or.inl ⟨by rfl, ?_⟩) ?_
  rotate_left
  · intro w hSw; (try dsimp only at hSw); go_simp; try (with_reducible rfl)
  try simp only [Act.put, nz1, nz2, nz3]
  refine tkH (v := ?_) 6 ⟨some 38, _, _, _, _, _⟩ rfl (Or.inl ⟨by rfl, ?_⟩) ?_
  rotate_left
  · intro w hSw; (try dsimp only at hSw); go_simp; try (with_reducible rfl)
  try simp only [Act.put, nz1, nz2, nz3]
  refine tkH (v := (.int .i64 (k : Int))) 7 ⟨some 39, _, _, _, _, _⟩ rfl (yields_one (by rfl) 3 _ rfl ⟨B, 3, none⟩ rfl _ _ (fun W' hS => by rw [hS.cell (i := 3) (by omega)]; show some (Value.int .i64 (s).round) = _; rw [HK.out]) Try.underlying3 rfl) ?_
  try simp only [Act.put, nz1, nz2, nz3]
  refine tkH (v := ?_) 9 ⟨some 41, _, _, _, _, _⟩ rfl (Or.inl ⟨by rfl, ?_⟩) ?_
  rotate_left
  · intro w hSw; (try dsimp only at hSw); go_simp; try (with_reducible rfl)
  try simp only [Act.put, nz1, nz2, nz3]
  refine wpAnyH_ready (rs := [8]) (by kernel_rfl) (by simp) ?_
  refine (AllReadyH.cons (o := ⟨some 40, _, _, _, _, _⟩) rfl (fun K hK => ?_) AllReadyH.nil)
  (try rw [if_pos (by rfl)])
  go_simp
  refine (HA1F.out _ hR).mono ?_
  rintro e Wn ⟨rfl, hbn⟩
  replace hR := hR.below hbn
  replace hO := hO.below hbn
  replace hG := hG.trans (grown_of_below hbn _)
  clear hbn
  try dsimp only
  refine hK.out _ _ (hR) (fun hHeld => ?_)
  clear hK K
  try simp only [Act.put, nz1, nz2, nz3]
  refine tkH (v := (.bool true)) 10 ⟨some 42, _, _, _, _, _⟩ rfl (yields_binR (by rfl) .geq 3 _ _ _ rfl (.int .i64 a1) (.int .i64 nd) rfl rfl _ (fun w => by rfl) (fun w => int_geq _ _ _ HA1.out w)) ?_
  try simp only [Act.put, nz1, nz2, nz3]
  refine wpAnyH_done (by kernel_rfl) ?_ _
  go_wp2_with (first
    | (go_at_call 73; refine (timer_any hR k 2 HK.out (by omega)).mono ?_; rintro e Wt ⟨⟨vt, rfl, hat⟩, hrt, hgt⟩; replace hO := hO.grown hgt HL.out.B; replace hG := hG.trans hgt; replace hR := hrt; clear hgt)
    | (at_builtin; obtain ⟨vq, Wq, hrun, how, hgq, hoq⟩ := app_own hG.size hO hat.own (by have := timerA_len (s) k 2; simp; omega); replace hR := hR.grownO HL.out hgq hoq; replace hG := grown_new hG hgq hoq; clear hO; have hO := how; refine wpList_append_run rfl _ _ _ _ rfl _ _ rfl rfl _ _ hrun ?_; clear hrun how hgq hoq hat))
  go_ret
  exact ⟨⟨_, rfl, by simpa using hO⟩, hR, hG⟩
set_option maxRecDepth 100000 in
set_option maxHeartbeats 8000000 in
theorem wait_many_few {W : World} {B C M n : Nat} {kv : Value} {s : RdS} (h : RoundAt W B C M n kv s) (k : Nat) (hk : s.round = (k : Int)) (hk12 : k < 12) (hst : s.step = 1) (hw1 : decide (need s.voters ≤ (allN s.voters s.votes (k : Int) 0 : Int)) = true) (hw2 : decide (need s.voters ≤ (allN s.voters s.votes (k : Int) 1 : Int)) = false) : Calls Try.prog 71 #[.pointer (some ⟨B, 0, none⟩)] W fun e w' => (∃ v, e = .returned v ∧ OwnA W.heap.size w' v (timerA s k 1 ++ [])) ∧ RoundAt w' B C M n kv (timerS s k 1) ∧ W.grownBy w' (some B) := by
  have hR := h
  have hO : OwnA W.heap.size W (.slice none 0 0) [] := ownA_nil _ _
  have hG : W.grownBy W (some B) := grown_of_below (Below.refl _ W) _
  have HL := Lib.hid h.low
  have HK := Lib.hid hk
  have HK1 : Hid ((timerS s k 1).round = (k : Int)) := Lib.hid (by rw [timerS_round, hk])
  have HALL : Hid (∀ (s' : RdS) (j : Int) W', 0 ≤ j ∧ j ≤ 1 → s'.voters = s.voters → s'.votes = s.votes → RoundAt W' B C M n kv s' → Calls Try.prog 24 #[.pointer (some ⟨C, 0, none⟩), .int .i64 (k : Int), .int .i64 j] W' fun e w' => e = .returned (.int .i64 (allN s.voters s.votes (k : Int) j : Int)) ∧ Below W'.heap.size W' w') := Lib.hid fun s' j W' hj e1 e2 hR => by
    have := all_any hR.cnt (k : Int) j (wfi_small (by omega) (by omega)) (wfi_small (by omega) (by omega)) hR.ok.voters.2.1
    rwa [e1, e2] at this
  have HA0F : Hid (∀ W', RoundAt W' B C M n kv s → Calls Try.prog 24 #[.pointer (some ⟨C, 0, none⟩), .int .i64 (k : Int), .int .i64 0] W' fun e w' => e = .returned (.int .i64 (allN s.voters s.votes (k : Int) 0 : Int)) ∧ Below W'.heap.size W' w') := Lib.hid fun W' hR => HALL.out s 0 W' ⟨by omega, by omega⟩ rfl rfl hR
  have HA1F : Hid (∀ W', RoundAt W' B C M n kv (timerS s k 1) → Calls Try.prog 24 #[.pointer (some ⟨C, 0, none⟩), .int .i64 (k : Int), .int .i64 1] W' fun e w' => e = .returned (.int .i64 (allN s.voters s.votes (k : Int) 1 : Int)) ∧ Below W'.heap.size W' w') := Lib.hid fun W' hR => HALL.out (timerS s k 1) 1 W' ⟨by omega, by omega⟩ (timerS_keep s k 1).1 (timerS_keep s k 1).2 hR
  clear HALL
  have HND : Hid (∀ w, Calls Try.prog 19 #[.int .i64 (s.voters : Int)] w fun e w' => e = .returned (.int .i64 (need s.voters)) ∧ w' = w) := Lib.hid fun w => need_any _ w
  generalize (allN s.voters s.votes (k : Int) 0 : Int) = a0 at HA0F hw1
  generalize (allN s.voters s.votes (k : Int) 1 : Int) = a1 at HA1F hw2
  generalize need s.voters = nd at HND hw1 hw2
  have HA0 := Lib.hid hw1
  have HA1 := Lib.hid hw2
  have c0 : W.cell? ⟨B, 0, none⟩ = some (.int .i64 (s.voters : Int)) := h.cell (i := 0) (by omega)
  clear h hw1 hw2 hk hk12
  have HST := Lib.hid hst
  clear hst
  go_enter Try.func71, Try.ntmps71
  go_upto_region 3 with (first
    | (go_at_call 19; refine (HND.out _).mono ?_; rintro e Wn ⟨rfl, h1⟩; obtain rfl := h1.symm))
  clear c0
  replace hR := hR.drew
  replace hO := hO.drew
  replace hG := grown_drew hG
  refine wp_region_held_drew (S := fun W' => RoundAt W' B C M n kv s) (by kernel_rfl) ?_ (fun hHeld => ?_)
  · exact hR
  refine tkH (v := ?_) 0 ⟨some 10, _, _, _, _, _⟩ rfl (Or.inl ⟨by rfl, ?_⟩) ?_
  rotate_left
  · intro w hSw; (try dsimp only at hSw); go_simp; try (with_reducible rfl)
  try simp only [Act.put, nz1, nz2, nz3]
  refine tkH (v := ?_) 1 ⟨some 11, _, _, _, _, _⟩ rfl (Or.inl ⟨by rfl, ?_⟩) ?_
  rotate_left
  · intro w hSw; (try dsimp only at hSw); go_simp; try (with_reducible rfl)
  try simp only [Act.put, nz1, nz2, nz3]
  refine tkH (v := ?_) 2 ⟨some 12, _, _, _, _, _⟩ rfl (Or.inl ⟨by rfl, ?_⟩) ?_
  rotate_left
  · intro w hSw; (try dsimp only at hSw); go_simp; try (with_reducible rfl)
  try simp only [Act.put, nz1, nz2, nz3]
  refine tkH (v := (.int .i64 1)) 3 ⟨some 13, _, _, _, _, _⟩ rfl (yields_one (by rfl) 3 _ rfl ⟨B, 4, none⟩ rfl _ _ (fun W' hS => by rw [hS.cell (i := 4) (by omega)]; show some (Value.int .i64 s.step) = _; rw [HST.out]) Try.underlying3 rfl) ?_
  try simp only [Act.put, nz1, nz2, nz3]
  refine tkH (v := ?_) 4 ⟨some 14, _, _, _, _, _⟩ rfl (Or.inl ⟨by rfl, ?_⟩) ?_
  rotate_left
  · intro w hSw; (try dsimp only at hSw); go_simp; try (with_reducible rfl)
  try simp only [Act.put, nz1, nz2, nz3]
  refine tkH (v := ?_) 5 ⟨some 15, _, _, _, _, _⟩ rfl (Or.inl ⟨by rfl, ?_⟩) ?_
  rotate_left
  · intro w hSw; (try dsimp only at hSw); go_simp; try (with_reducible rfl)
  try simp only [Act.put, nz1, nz2, nz3]
  refine tkH (v := ?_) 6 ⟨some 16, _, _, _, _, _⟩ rfl (Or.inl ⟨by rfl, ?_⟩) ?_
  rotate_left
  · intro w hSw; (try dsimp only at hSw); go_simp; try (with_reducible rfl)
  try simp only [Act.put, nz1, nz2, nz3]
  refine tkH (v := ?_) 7 ⟨some 17, _, _, _, _, _⟩ rfl (Or.inl ⟨by rfl, ?_⟩) ?_
  rotate_left
  · intro w hSw; (try dsimp only at hSw); go_simp; try (with_reducible rfl)
  try simp only [Act.put, nz1, nz2, nz3]
  refine tkH (v := ?_) 8 ⟨some 18, _, _, _, _, _⟩ rfl (Or.inl ⟨by rfl, ?_⟩) ?_
  rotate_left
  · intro w hSw; (try dsimp only at hSw); go_simp; try (with_reducible rfl)
  try simp only [Act.put, nz1, nz2, nz3]
  refine tkH (v := (.pointer (some ⟨C, 0, none⟩))) 9 ⟨some 19, _, _, _, _, _⟩ rfl (yields_one (by rfl) 28 _ rfl ⟨B, 548, none⟩ rfl _ _ (fun W' hS => hS.cell (i := 548) (by omega)) Try.underlying28 rfl) ?_
  try simp only [Act.put, nz1, nz2, nz3]
  refine tkH (v := ?_) 10 ⟨some 20, _, _, _, _, _⟩ rfl (Or.inl ⟨by rfl, ?_⟩) ?_
  rotate_left
  · intro w hSw; (try dsimp only at hSw); go_simp; try (with_reducible rfl)
  try simp only [Act.put, nz1, nz2, nz3]
  refine tkH (v := ?_) 11 ⟨some 21, _, _, _, _, _⟩ rfl (Or.inl ⟨by rfl, ?_⟩) ?_
  rotate_left
  · intro w hSw; (try dsimp only at hSw); go_simp; try (with_reducible rfl)
  try simp only [Act.put, nz1, nz2, nz3]
  refine tkH (v := ?_) 12 ⟨some 22, _, _, _, _, _⟩ rfl (Or.inl ⟨by rfl, ?_⟩) ?_
  rotate_left
  · intro w hSw; (try dsimp only at hSw); go_simp; try (with_reducible rfl)
  try simp only [Act.put, nz1, nz2, nz3]
  refine tkH (v := (.int .i64 (k : Int))) 13 ⟨some 23, _, _, _, _, _⟩ rfl (yields_one (by rfl) 3 _ rfl ⟨B, 3, none⟩ rfl _ _ (fun W' hS => by rw [hS.cell (i := 3) (by omega)]; show some (Value.int .i64 (s).round) = _; rw [HK.out]) Try.underlying3 rfl) ?_
  try simp only [Act.put, nz1, nz2, nz3]
  refine tkH (v := ?_) 15 ⟨some 25, _, _, _, _, _⟩ rfl (Or.inl ⟨by rfl, ?_⟩) ?_
  rotate_left
  · intro w hSw; (try dsimp only at hSw); go_simp; try (with_reducible rfl)
  try simp only [Act.put, nz1, nz2, nz3]
  refine wpAnyH_ready (rs := [14]) (by kernel_rfl) (by simp) ?_
  refine (AllReadyH.cons (o := ⟨some 24, _, _, _, _, _⟩) rfl (fun K hK => ?_) AllReadyH.nil)
  (try rw [if_pos (by rfl)])
  go_simp
  refine (HA0F.out _ hR).mono ?_
  rintro e Wn ⟨rfl, hbn⟩
  replace hR := hR.below hbn
  replace hO := hO.below hbn
  replace hG := hG.trans (grown_of_below hbn _)
  clear hbn
  try dsimp only
  refine hK.out _ _ (hR) (fun hHeld => ?_)
  clear hK K
  try simp only [Act.put, nz1, nz2, nz3]
  refine tkH (v := (.bool true)) 16 ⟨some 26, _, _, _, _, _⟩ rfl (yields_binR (by rfl) .geq 3 _ _ _ rfl (.int .i64 a0) (.int .i64 nd) rfl rfl _ (fun w => by rfl) (fun w => int_geq _ _ _ HA0.out w)) ?_
  try simp only [Act.put, nz1, nz2, nz3]
  refine tkH (v := ?_) 17 ⟨some 27, _, _, _, _, _⟩ rfl (Or.inl ⟨by rfl, ?_⟩) ?_
  rotate_left
  · intro w hSw; (try dsimp only at hSw); go_simp; try (with_reducible rfl)
  try simp only [Act.put, nz1, nz2, nz3]
  refine wpAnyH_done (by kernel_rfl) ?_ _
  go_upto_region 5 with (first
    | (go_at_call 73; refine (timer_any hR k 1 HK.out (by omega)).mono ?_; rintro e Wt ⟨⟨vt, rfl, hat⟩, hrt, hgt⟩; replace hO := hO.grown hgt HL.out.B; replace hG := hG.trans hgt; replace hR := hrt; clear hgt)
    | (at_builtin; obtain ⟨vq, Wq, hrun, how, hgq, hoq⟩ := app_own hG.size hO hat.own (by have := timerA_len s k 1; simp; omega); replace hR := hR.grownO HL.out hgq hoq; replace hG := grown_new hG hgq hoq; clear hO; have hO := how; refine wpList_append_run rfl _ _ _ _ rfl _ _ rfl rfl _ _ hrun ?_; clear hrun how hgq hoq hat))
  replace hR := hR.drew
  replace hO := hO.drew
  replace hG := grown_drew hG
  refine wp_region_held_drew (S := fun W' => RoundAt W' B C M n kv (timerS s k 1)) (by kernel_rfl) ?_ (fun hHeld => ?_)
  · exact hR
  refine tkH (v := ?_) 0 ⟨some 32, _, _, _, _, _⟩ rfl (Or.inl ⟨by rfl, ?_⟩) ?_
  rotate_left
  · intro w hSw; (try dsimp only at hSw); go_simp; try (with_reducible rfl)
  try simp only [Act.put, nz1, nz2, nz3]
  refine tkH (v := ?_) 1 ⟨some 33, _, _, _, _, _⟩ rfl (Or.inl ⟨by rfl, ?_⟩) ?_
  rotate_left
  · intro w hSw; (try dsimp only at hSw); go_simp; try (with_reducible rfl)
  try simp only [Act.put, nz1, nz2, nz3]
  refine tkH (v := ?_) 2 ⟨some 34, _, _, _, _, _⟩ rfl (Or.inl ⟨by rfl, ?_⟩) ?_
  rotate_left
  · intro w hSw; (try dsimp only at hSw); go_simp; try (with_reducible rfl)
  try simp only [Act.put, nz1, nz2, nz3]
  refine tkH (v := (.pointer (some ⟨C, 0, none⟩))) 3 ⟨some 35, _, _, _, _, _⟩ rfl (yields_one (by rfl) 28 _ rfl ⟨B, 548, none⟩ rfl _ _ (fun W' hS => hS.cell (i := 548) (by omega)) Try.underlying28 rfl) ?_
  try simp only [Act.put, nz1, nz2, nz3]
  refine tkH (v := ?_) 4 ⟨some 36, _, _, _, _, _⟩ rfl (Or.inl ⟨by rfl, ?_⟩) ?_
  rotate_left
  · intro w hSw; (try dsimp only at hSw); go_simp; try (with_reducible rfl)
  try simp only [Act.put, nz1, nz2, nz3]
  refine tkH (v := ?_) 5 ⟨some 37, _, _, _, _, _⟩ rfl (Or.inl ⟨by rfl, ?_⟩) ?_
  rotate_left
  · intro w hSw; (try dsimp only at hSw); go_simp; try (with_reducible rfl)
  try simp only [Act.put, nz1, nz2, nz3]
  refine tkH (v := ?_) 6 ⟨some 38, _, _, _, _, _⟩ rfl (Or.inl ⟨by rfl, ?_⟩) ?_
  rotate_left
  · intro w hSw; (try dsimp only at hSw); go_simp; try (with_reducible rfl)
  try simp only [Act.put, nz1, nz2, nz3]
  refine tkH (v := (.int .i64 (k : Int))) 7 ⟨some 39, _, _, _, _, _⟩ rfl (yields_one (by rfl) 3 _ rfl ⟨B, 3, none⟩ rfl _ _ (fun W' hS => by rw [hS.cell (i := 3) (by omega)]; show some (Value.int .i64 (timerS s k 1).round) = _; rw [HK1.out]) Try.underlying3 rfl) ?_
  try simp only [Act.put, nz1, nz2, nz3]
  refine tkH (v := ?_) 9 ⟨some 41, _, _, _, _, _⟩ rfl (Or.inl ⟨by rfl, ?_⟩) ?_
  rotate_left
  · intro w hSw; (try dsimp only at hSw); go_simp; try (with_reducible rfl)
  try simp only [Act.put, nz1, nz2, nz3]
  refine wpAnyH_ready (rs := [8]) (by kernel_rfl) (by simp) ?_
  refine (AllReadyH.cons (o := ⟨some 40, _, _, _, _, _⟩) rfl (fun K hK => ?_) AllReadyH.nil)
  (try rw [if_pos (by rfl)])
  go_simp
  refine (HA1F.out _ hR).mono ?_
  rintro e Wn ⟨rfl, hbn⟩
  replace hR := hR.below hbn
  replace hO := hO.below hbn
  replace hG := hG.trans (grown_of_below hbn _)
  clear hbn
  try dsimp only
  refine hK.out _ _ (hR) (fun hHeld => ?_)
  clear hK K
  try simp only [Act.put, nz1, nz2, nz3]
  refine tkH (v := (.bool false)) 10 ⟨some 42, _, _, _, _, _⟩ rfl (yields_binR (by rfl) .geq 3 _ _ _ rfl (.int .i64 a1) (.int .i64 nd) rfl rfl _ (fun w => by rfl) (fun w => int_geq _ _ _ HA1.out w)) ?_
  try simp only [Act.put, nz1, nz2, nz3]
  refine wpAnyH_done (by kernel_rfl) ?_ _
  go_wp2_with fail
  go_ret
  exact ⟨⟨_, rfl, by simpa using hO⟩, hR, hG⟩
set_option maxRecDepth 100000 in
set_option maxHeartbeats 8000000 in
theorem wait_many_many {W : World} {B C M n : Nat} {kv : Value} {s : RdS} (h : RoundAt W B C M n kv s) (k : Nat) (hk : s.round = (k : Int)) (hk12 : k < 12) (hst : s.step = 1) (hw1 : decide (need s.voters ≤ (allN s.voters s.votes (k : Int) 0 : Int)) = true) (hw2 : decide (need s.voters ≤ (allN s.voters s.votes (k : Int) 1 : Int)) = true) : Calls Try.prog 71 #[.pointer (some ⟨B, 0, none⟩)] W fun e w' => (∃ v, e = .returned v ∧ OwnA W.heap.size w' v (timerA s k 1 ++ timerA (timerS s k 1) k 2)) ∧ RoundAt w' B C M n kv (timerS (timerS s k 1) k 2) ∧ W.grownBy w' (some B) := by
  have hR := h
  have hO : OwnA W.heap.size W (.slice none 0 0) [] := ownA_nil _ _
  have hG : W.grownBy W (some B) := grown_of_below (Below.refl _ W) _
  have HL := Lib.hid h.low
  have HK := Lib.hid hk
  have HK1 : Hid ((timerS s k 1).round = (k : Int)) := Lib.hid (by rw [timerS_round, hk])
  have HALL : Hid (∀ (s' : RdS) (j : Int) W', 0 ≤ j ∧ j ≤ 1 → s'.voters = s.voters → s'.votes = s.votes → RoundAt W' B C M n kv s' → Calls Try.prog 24 #[.pointer (some ⟨C, 0, none⟩), .int .i64 (k : Int), .int .i64 j] W' fun e w' => e = .returned (.int .i64 (allN s.voters s.votes (k : Int) j : Int)) ∧ Below W'.heap.size W' w') := Lib.hid fun s' j W' hj e1 e2 hR => by
    have := all_any hR.cnt (k : Int) j (wfi_small (by omega) (by omega)) (wfi_small (by omega) (by omega)) hR.ok.voters.2.1
    rwa [e1, e2] at this
  have HA0F : Hid (∀ W', RoundAt W' B C M n kv s → Calls Try.prog 24 #[.pointer (some ⟨C, 0, none⟩), .int .i64 (k : Int), .int .i64 0] W' fun e w' => e = .returned (.int .i64 (allN s.voters s.votes (k : Int) 0 : Int)) ∧ Below W'.heap.size W' w') := Lib.hid fun W' hR => HALL.out s 0 W' ⟨by omega, by omega⟩ rfl rfl hR
  have HA1F : Hid (∀ W', RoundAt W' B C M n kv (timerS s k 1) → Calls Try.prog 24 #[.pointer (some ⟨C, 0, none⟩), .int .i64 (k : Int), .int .i64 1] W' fun e w' => e = .returned (.int .i64 (allN s.voters s.votes (k : Int) 1 : Int)) ∧ Below W'.heap.size W' w') := Lib.hid fun W' hR => HALL.out (timerS s k 1) 1 W' ⟨by omega, by omega⟩ (timerS_keep s k 1).1 (timerS_keep s k 1).2 hR
  clear HALL
  have HND : Hid (∀ w, Calls Try.prog 19 #[.int .i64 (s.voters : Int)] w fun e w' => e = .returned (.int .i64 (need s.voters)) ∧ w' = w) := Lib.hid fun w => need_any _ w
  generalize (allN s.voters s.votes (k : Int) 0 : Int) = a0 at HA0F hw1
  generalize (allN s.voters s.votes (k : Int) 1 : Int) = a1 at HA1F hw2
  generalize need s.voters = nd at HND hw1 hw2
  have HA0 := Lib.hid hw1
  have HA1 := Lib.hid hw2
  have c0 : W.cell? ⟨B, 0, none⟩ = some (.int .i64 (s.voters : Int)) := h.cell (i := 0) (by omega)
  clear h hw1 hw2 hk hk12
  have HST := Lib.hid hst
  clear hst
  go_enter Try.func71, Try.ntmps71
  go_upto_region 3 with (first
    | (go_at_call 19; refine (HND.out _).mono ?_; rintro e Wn ⟨rfl, h1⟩; obtain rfl := h1.symm))
  clear c0
  replace hR := hR.drew
  replace hO := hO.drew
  replace hG := grown_drew hG
  refine wp_region_held_drew (S := fun W' => RoundAt W' B C M n kv s) (by kernel_rfl) ?_ (fun hHeld => ?_)
  · exact hR
  refine tkH (v := ?_) 0 ⟨some 10, _, _, _, _, _⟩ rfl (Or.inl ⟨by rfl, ?_⟩) ?_
  rotate_left
  · intro w hSw; (try dsimp only at hSw); go_simp; try (with_reducible rfl)
  try simp only [Act.put, nz1, nz2, nz3]
  refine tkH (v := ?_) 1 ⟨some 11, _, _, _, _, _⟩ rfl (Or.inl ⟨by rfl, ?_⟩) ?_
  rotate_left
  · intro w hSw; (try dsimp only at hSw); go_simp; try (with_reducible rfl)
  try simp only [Act.put, nz1, nz2, nz3]
  refine tkH (v := ?_) 2 ⟨some 12, _, _, _, _, _⟩ rfl (Or.inl ⟨by rfl, ?_⟩) ?_
  rotate_left
  · intro w hSw; (try dsimp only at hSw); go_simp; try (with_reducible rfl)
  try simp only [Act.put, nz1, nz2, nz3]
  refine tkH (v := (.int .i64 1)) 3 ⟨some 13, _, _, _, _, _⟩ rfl (yields_one (by rfl) 3 _ rfl ⟨B, 4, none⟩ rfl _ _ (fun W' hS => by rw [hS.cell (i := 4) (by omega)]; show some (Value.int .i64 s.step) = _; rw [HST.out]) Try.underlying3 rfl) ?_
  try simp only [Act.put, nz1, nz2, nz3]
  refine tkH (v := ?_) 4 ⟨some 14, _, _, _, _, _⟩ rfl (Or.inl ⟨by rfl, ?_⟩) ?_
  rotate_left
  · intro w hSw; (try dsimp only at hSw); go_simp; try (with_reducible rfl)
  try simp only [Act.put, nz1, nz2, nz3]
  refine tkH (v := ?_) 5 ⟨some 15, _, _, _, _, _⟩ rfl (Or.inl ⟨by rfl, ?_⟩) ?_
  rotate_left
  · intro w hSw; (try dsimp only at hSw); go_simp; try (with_reducible rfl)
  try simp only [Act.put, nz1, nz2, nz3]
  refine tkH (v := ?_) 6 ⟨some 16, _, _, _, _, _⟩ rfl (Or.inl ⟨by rfl, ?_⟩) ?_
  rotate_left
  · intro w hSw; (try dsimp only at hSw); go_simp; try (with_reducible rfl)
  try simp only [Act.put, nz1, nz2, nz3]
  refine tkH (v := ?_) 7 ⟨some 17, _, _, _, _, _⟩ rfl (Or.inl ⟨by rfl, ?_⟩) ?_
  rotate_left
  · intro w hSw; (try dsimp only at hSw); go_simp; try (with_reducible rfl)
  try simp only [Act.put, nz1, nz2, nz3]
  refine tkH (v := ?_) 8 ⟨some 18, _, _, _, _, _⟩ rfl (Or.inl ⟨by rfl, ?_⟩) ?_
  rotate_left
  · intro w hSw; (try dsimp only at hSw); go_simp; try (with_reducible rfl)
  try simp only [Act.put, nz1, nz2, nz3]
  refine tkH (v := (.pointer (some ⟨C, 0, none⟩))) 9 ⟨some 19, _, _, _, _, _⟩ rfl (yields_one (by rfl) 28 _ rfl ⟨B, 548, none⟩ rfl _ _ (fun W' hS => hS.cell (i := 548) (by omega)) Try.underlying28 rfl) ?_
  try simp only [Act.put, nz1, nz2, nz3]
  refine tkH (v := ?_) 10 ⟨some 20, _, _, _, _, _⟩ rfl (Or.inl ⟨by rfl, ?_⟩) ?_
  rotate_left
  · intro w hSw; (try dsimp only at hSw); go_simp; try (with_reducible rfl)
  try simp only [Act.put, nz1, nz2, nz3]
  refine tkH (v := ?_) 11 ⟨some 21, _, _, _, _, _⟩ rfl (Or.inl ⟨by rfl, ?_⟩) ?_
  rotate_left
  · intro w hSw; (try dsimp only at hSw); go_simp; try (with_reducible rfl)
  try simp only [Act.put, nz1, nz2, nz3]
  refine tkH (v := ?_) 12 ⟨some 22, _, _, _, _, _⟩ rfl (Or.inl ⟨by rfl, ?_⟩) ?_
  rotate_left
  · intro w hSw; (try dsimp only at hSw); go_simp; try (with_reducible rfl)
  try simp only [Act.put, nz1, nz2, nz3]
  refine tkH (v := (.int .i64 (k : Int))) 13 ⟨some 23, _, _, _, _, _⟩ rfl (yields_one (by rfl) 3 _ rfl ⟨B, 3, none⟩ rfl _ _ (fun W' hS => by rw [hS.cell (i := 3) (by omega)]; show some (Value.int .i64 (s).round) = _; rw [HK.out]) Try.underlying3 rfl) ?_
  try simp only [Act.put, nz1, nz2, nz3]
  refine tkH (v := ?_) 15 ⟨some 25, _, _, _, _, _⟩ rfl (Or.inl ⟨by rfl, ?_⟩) ?_
  rotate_left
  · intro w hSw; (try dsimp only at hSw); go_simp; try (with_reducible rfl)
  try simp only [Act.put, nz1, nz2, nz3]
  refine wpAnyH_ready (rs := [14]) (by kernel_rfl) (by simp) ?_
  refine (AllReadyH.cons (o := ⟨some 24, _, _, _, _, _⟩) rfl (fun K hK => ?_) AllReadyH.nil)
  (try rw [if_pos (by rfl)])
  go_simp
  refine (HA0F.out _ hR).mono ?_
  rintro e Wn ⟨rfl, hbn⟩
  replace hR := hR.below hbn
  replace hO := hO.below hbn
  replace hG := hG.trans (grown_of_below hbn _)
  clear hbn
  try dsimp only
  refine hK.out _ _ (hR) (fun hHeld => ?_)
  clear hK K
  try simp only [Act.put, nz1, nz2, nz3]
  refine tkH (v := (.bool true)) 16 ⟨some 26, _, _, _, _, _⟩ rfl (yields_binR (by rfl) .geq 3 _ _ _ rfl (.int .i64 a0) (.int .i64 nd) rfl rfl _ (fun w => by rfl) (fun w => int_geq _ _ _ HA0.out w)) ?_
  try simp only [Act.put, nz1, nz2, nz3]
  refine tkH (v := ?_) 17 ⟨some 27, _, _, _, _, _⟩ rfl (Or.inl ⟨by rfl, ?_⟩) ?_
  rotate_left
  · intro w hSw; (try dsimp only at hSw); go_simp; try (with_reducible rfl)
  try simp only [Act.put, nz1, nz2, nz3]
  refine wpAnyH_done (by kernel_rfl) ?_ _
  go_upto_region 5 with (first
    | (go_at_call 73; refine (timer_any hR k 1 HK.out (by omega)).mono ?_; rintro e Wt ⟨⟨vt, rfl, hat⟩, hrt, hgt⟩; replace hO := hO.grown hgt HL.out.B; replace hG := hG.trans hgt; replace hR := hrt; clear hgt)
    | (at_builtin; obtain ⟨vq, Wq, hrun, how, hgq, hoq⟩ := app_own hG.size hO hat.own (by have := timerA_len s k 1; simp; omega); replace hR := hR.grownO HL.out hgq hoq; replace hG := grown_new hG hgq hoq; clear hO; have hO := how; refine wpList_append_run rfl _ _ _ _ rfl _ _ rfl rfl _ _ hrun ?_; clear hrun how hgq hoq hat))
  replace hR := hR.drew
  replace hO := hO.drew
  replace hG := grown_drew hG
  refine wp_region_held_drew (S := fun W' => RoundAt W' B C M n kv (timerS s k 1)) (by kernel_rfl) ?_ (fun hHeld => ?_)
  · exact hR
  refine tkH (v := ?_) 0 ⟨some 32, _, _, _, _, _⟩ rfl (Or.inl ⟨by rfl, ?_⟩) ?_
  rotate_left
  · intro w hSw; (try dsimp only at hSw); go_simp; try (with_reducible rfl)
  try simp only [Act.put, nz1, nz2, nz3]
  refine tkH (v := ?_) 1 ⟨some 33, _, _, _, _, _⟩ rfl (Or.inl ⟨by rfl, ?_⟩) ?_
  rotate_left
  · intro w hSw; (try dsimp only at hSw); go_simp; try (with_reducible rfl)
  try simp only [Act.put, nz1, nz2, nz3]
  refine tkH (v := ?_) 2 ⟨some 34, _, _, _, _, _⟩ rfl (Or.inl ⟨by rfl, ?_⟩) ?_
  rotate_left
  · intro w hSw; (try dsimp only at hSw); go_simp; try (with_reducible rfl)
  try simp only [Act.put, nz1, nz2, nz3]
  refine tkH (v := (.pointer (some ⟨C, 0, none⟩))) 3 ⟨some 35, _, _, _, _, _⟩ rfl (yields_one (by rfl) 28 _ rfl ⟨B, 548, none⟩ rfl _ _ (fun W' hS => hS.cell (i := 548) (by omega)) Try.underlying28 rfl) ?_
  try simp only [Act.put, nz1, nz2, nz3]
  refine tkH (v := ?_) 4 ⟨some 36, _, _, _, _, _⟩ rfl (Or.inl ⟨by rfl, ?_⟩) ?_
  rotate_left
  · intro w hSw; (try dsimp only at hSw); go_simp; try (with_reducible rfl)
  try simp only [Act.put, nz1, nz2, nz3]
  refine tkH (v := ?_) 5 ⟨some 37, _, _, _, _, _⟩ rfl (Or.inl ⟨by rfl, ?_⟩) ?_
  rotate_left
  · intro w hSw; (try dsimp only at hSw); go_simp; try (with_reducible rfl)
  try simp only [Act.put, nz1, nz2, nz3]
  refine tkH (v := ?_) 6 ⟨some 38, _, _, _, _, _⟩ rfl (Or.inl ⟨by rfl, ?_⟩) ?_
  rotate_left
  · intro w hSw; (try dsimp only at hSw); go_simp; try (with_reducible rfl)
  try simp only [Act.put, nz1, nz2, nz3]
  refine tkH (v := (.int .i64 (k : Int))) 7 ⟨some 39, _, _, _, _, _⟩ rfl (yields_one (by rfl) 3 _ rfl ⟨B, 3, none⟩ rfl _ _ (fun W' hS => by rw [hS.cell (i := 3) (by omega)]; show some (Value.int .i64 (timerS s k 1).round) = _; rw [HK1.out]) Try.underlying3 rfl) ?_
  try simp only [Act.put, nz1, nz2, nz3]
  refine tkH (v := ?_) 9 ⟨some 41, _, _, _, _, _⟩ rfl (Or.inl ⟨by rfl, ?_⟩) ?_
  rotate_left
  · intro w hSw; (try dsimp only at hSw); go_simp; try (with_reducible rfl)
  try simp only [Act.put, nz1, nz2, nz3]
  refine wpAnyH_ready (rs := [8]) (by kernel_rfl) (by simp) ?_
  refine (AllReadyH.cons (o := ⟨some 40, _, _, _, _, _⟩) rfl (fun K hK => ?_) AllReadyH.nil)
  (try rw [if_pos (by rfl)])
  go_simp
  refine (HA1F.out _ hR).mono ?_
  rintro e Wn ⟨rfl, hbn⟩
  replace hR := hR.below hbn
  replace hO := hO.below hbn
  replace hG := hG.trans (grown_of_below hbn _)
  clear hbn
  try dsimp only
  refine hK.out _ _ (hR) (fun hHeld => ?_)
  clear hK K
  try simp only [Act.put, nz1, nz2, nz3]
  refine tkH (v := (.bool true)) 10 ⟨some 42, _, _, _, _, _⟩ rfl (yields_binR (by rfl) .geq 3 _ _ _ rfl (.int .i64 a1) (.int .i64 nd) rfl rfl _ (fun w => by rfl) (fun w => int_geq _ _ _ HA1.out w)) ?_
  try simp only [Act.put, nz1, nz2, nz3]
  refine wpAnyH_done (by kernel_rfl) ?_ _
  go_wp2_with (first
    | (go_at_call 73; refine (timer_any hR k 2 HK1.out (by omega)).mono ?_; rintro e Wt ⟨⟨vt, rfl, hat⟩, hrt, hgt⟩; replace hO := hO.grown hgt HL.out.B; replace hG := hG.trans hgt; replace hR := hrt; clear hgt)
    | (at_builtin; obtain ⟨vq, Wq, hrun, how, hgq, hoq⟩ := app_own hG.size hO hat.own (by have := timerA_len (timerS s k 1) k 2; have := timerA_len s k 1; simp; omega); replace hR := hR.grownO HL.out hgq hoq; replace hG := grown_new hG hgq hoq; clear hO; have hO := how; refine wpList_append_run rfl _ _ _ _ rfl _ _ rfl rfl _ _ hrun ?_; clear hrun how hgq hoq hat))
  go_ret
  exact ⟨⟨_, rfl, by simpa using hO⟩, hR, hG⟩
theorem wait_any {W : World} {B C M n : Nat} {kv : Value} {s : RdS} (h : RoundAt W B C M n kv s) (hr : 0 ≤ s.round) : Calls Try.prog 71 #[.pointer (some ⟨B, 0, none⟩)] W fun e w' => (∃ v, e = .returned v ∧ OwnA W.heap.size w' v (waitA s)) ∧ RoundAt w' B C M n kv (waitS s) ∧ W.grownBy w' (some B) := by
  obtain ⟨k, hk⟩ : ∃ k : Nat, s.round = (k : Int) := ⟨s.round.toNat, by omega⟩
  have hk12 : k < 12 := by have := h.ok.round; omega
  have w2k : ∀ s' : RdS, s'.voters = s.voters → s'.votes = s.votes → s'.round = s.round → wait2 s' = decide (need s.voters ≤ (allN s.voters s.votes (k : Int) 1 : Int)) := fun s' e1 e2 e3 => by unfold wait2; rw [e1, e2, e3, hk]
  have ek : s.round.toNat = k := by omega
  unfold waitA waitS
  by_cases hst : s.step = 1
  · cases hw1 : decide (need s.voters ≤ (allN s.voters s.votes (k : Int) 0 : Int)) with
    | false =>
      have e1 : wait1 s = false := by unfold wait1; rw [hk, hw1, Bool.and_false]
      have e2 : wS1 s = s := by unfold wS1; rw [e1]; rfl
      have e3 : wA1 s = [] := by unfold wA1; rw [e1]; rfl
      rw [e2, e3]
      unfold wS2 wA2
      cases hw2 : decide (need s.voters ≤ (allN s.voters s.votes (k : Int) 1 : Int)) with
      | false => rw [w2k s rfl rfl rfl, hw2]; exact wait_few_few h k hk hk12 hst hw1 hw2
      | true => rw [w2k s rfl rfl rfl, hw2, ek]; exact wait_few_many h k hk hk12 hst hw1 hw2
    | true =>
      have e1 : wait1 s = true := by unfold wait1; rw [hk, hw1, hst]; rfl
      have e2 : wS1 s = timerS s k 1 := by unfold wS1; rw [e1, ek]; rfl
      have e3 : wA1 s = timerA s k 1 := by unfold wA1; rw [e1, ek]; rfl
      rw [e2, e3]
      have ht := timerS_keep s k 1
      have er : (timerS s k 1).round.toNat = k := by rw [timerS_round, ek]
      unfold wS2 wA2
      cases hw2 : decide (need s.voters ≤ (allN s.voters s.votes (k : Int) 1 : Int)) with
      | false => rw [w2k _ ht.1 ht.2 (timerS_round _ _ _), hw2]; exact wait_many_few h k hk hk12 hst hw1 hw2
      | true => rw [w2k _ ht.1 ht.2 (timerS_round _ _ _), hw2, er]; exact wait_many_many h k hk hk12 hst hw1 hw2
  · have e1 : wait1 s = false := by unfold wait1; rw [decide_eq_false hst, Bool.false_and]
    have e2 : wS1 s = s := by unfold wS1; rw [e1]; rfl
    have e3 : wA1 s = [] := by unfold wA1; rw [e1]; rfl
    rw [e2, e3]
    unfold wS2 wA2
    cases hw2 : decide (need s.voters ≤ (allN s.voters s.votes (k : Int) 1 : Int)) with
    | false => rw [w2k s rfl rfl rfl, hw2]; exact wait_off_few h k hk hk12 hst hw2
    | true => rw [w2k s rfl rfl rfl, hw2, ek]; exact wait_off_many h k hk hk12 hst hw2
end Go.Proofs.Ytbgojlcciealiaa
