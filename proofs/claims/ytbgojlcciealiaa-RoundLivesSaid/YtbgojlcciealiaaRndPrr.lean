/-
  One's way to agreement: who proposes; what is remembered. No condition.
-/
import Derived.Test.YtbgojlcciealiaaRndBack
namespace Go.Proofs.Ytbgojlcciealiaa
open Go Go.RowKit Go.Maps

def proposer (v h r : Int) : Int := (h + r) % v
set_option maxRecDepth 100000 in
set_option maxHeartbeats 4000000 in
theorem proposer_any (v hh r : Int) (hv : 1 ≤ v ∧ v ≤ 1000) (h0 : 0 ≤ hh) (h1 : hh < 9223372036854775808) (h2 : 0 ≤ r ∧ r ≤ 1000) (w : World) : Calls Try.prog 43 #[.int .i64 v, .int .i64 hh, .int .i64 r] w fun e w' => e = .returned (.int .i64 (proposer v hh r)) ∧ w' = w := by
  obtain ⟨hv1, hv2⟩ := hv
  obtain ⟨h3, h4⟩ := h2
  have n1 : ¬ v < 1 := by omega
  have hw : wrap64 ((hh + r) % v) = (hh + r) % v := IntWalk.wrap64_in _ (by have := Int.emod_nonneg (hh + r) (b := v) (by omega); have := Int.emod_lt_of_pos (hh + r) (b := v) (by omega); omega)
  have n2 : ¬ hh < 0 := by omega
  have n3 : ¬ r < 0 := by omega
  go_enter Try.func43, Try.ntmps43
  go_upto_region 3 with fail
  go_wp2_with fail
  go_ret
  exact ⟨rfl, rfl⟩
def remS (s : RdS) (id : List UInt8) : RdS := if id ≠ zeroId ∧ hasI s.known id = false ∧ s.known.length < 32 then { s with known := s.known ++ [id] } else s
set_option maxRecDepth 100000 in
set_option maxHeartbeats 8000000 in
theorem rem_zero {W : World} {B C M n : Nat} {kv : Value} {s : RdS} (h : RoundAt W B C M n kv s) (id : List UInt8) (hid : IdOk id) (hs : id = zeroId) : Calls Try.prog 59 #[.pointer (some ⟨B, 0, none⟩), .agg (idC id)] W fun e w' => (∃ v, e = .returned v) ∧ Below W.heap.size W w' := by
  obtain ⟨W1, hW⟩ : ∃ W1, W.alloc (.cells (idC id) 24) = W1 := ⟨_, rfl⟩
  have hb1 : Below W.heap.size W W1 := by rw [← hW]; exact (Below.refl _ _).alloc (Nat.le_refl _) _
  have k1 : Blk W1 W.heap.size 24 (idC id) := by rw [← hW]; exact Blk.new _ _ _
  have HB1 := Lib.hid hb1
  have HK1 := Lib.hid k1
  have HID := Lib.hid hid
  have HS := Lib.hid hs
  have HR := Lib.hid h
  have HR1 := Lib.hid (h.below hb1)
  have hne := fun W => neq_idv hid zeroId_ok W
  have hgu := fun W a b => guardn_idv a b id zeroId W
  have HLD : Hid (∀ W', Below W1.heap.size W1 W' → (Instr.loadAt 24 (.pointer (some ⟨W.heap.size, 0, none⟩))).run Try.prog W' = .ok (idv id) W') := Lib.hid fun W' hb => run_loadVar_idv hid (k1.below hb k1.lt)
  rw [show (id == zeroId) = true from by rw [hs]; simp] at hne
  clear hid hb1 k1 h hs
  have HBQ : Hid (Below W1.heap.size W1 W1) := Lib.hid (Below.refl _ W1)
  go_enter Try.func59, Try.ntmps59
  go_upto_region 1 with fail
  clear hW
  go_wp2_with (first
    | (guard_target = wpList _ _ _ (Oper.mk _ (.load 24 _) _ _ _ _ :: _) _ _; refine wpList_load_runS (by rfl) 24 _ rfl _ _ rfl (HLD.out _ HBQ.out) ?_)
    | (guard_target = wpList _ _ _ (Oper.mk _ (.build 24 _) _ _ _ _ :: _) _ _; refine wpList_build_zero rfl rfl ?_))
  go_end0
  exact ⟨⟨_, rfl⟩, HB1.out⟩
set_option maxRecDepth 100000 in
set_option maxHeartbeats 8000000 in
theorem rem_has {W : World} {B C M n : Nat} {kv : Value} {s : RdS} (h : RoundAt W B C M n kv s) (id : List UInt8) (hid : IdOk id) (hs : id ≠ zeroId ∧ hasI s.known id = true) : Calls Try.prog 59 #[.pointer (some ⟨B, 0, none⟩), .agg (idC id)] W fun e w' => (∃ v, e = .returned v) ∧ Below W.heap.size W w' := by
  obtain ⟨W1, hW⟩ : ∃ W1, W.alloc (.cells (idC id) 24) = W1 := ⟨_, rfl⟩
  have hb1 : Below W.heap.size W W1 := by rw [← hW]; exact (Below.refl _ _).alloc (Nat.le_refl _) _
  have k1 : Blk W1 W.heap.size 24 (idC id) := by rw [← hW]; exact Blk.new _ _ _
  have HB1 := Lib.hid hb1
  have HK1 := Lib.hid k1
  have HID := Lib.hid hid
  have HS := Lib.hid hs
  have HR := Lib.hid h
  have HR1 := Lib.hid (h.below hb1)
  have hne := fun W => neq_idv hid zeroId_ok W
  have hgu := fun W a b => guardn_idv a b id zeroId W
  have HLD : Hid (∀ W', Below W1.heap.size W1 W' → (Instr.loadAt 24 (.pointer (some ⟨W.heap.size, 0, none⟩))).run Try.prog W' = .ok (idv id) W') := Lib.hid fun W' hb => run_loadVar_idv hid (k1.below hb k1.lt)
  rw [show (id == zeroId) = false from by rw [beq_eq_false_iff_ne]; exact hs.1] at hne
  clear hid hb1 k1 h hs
  have HBQ : Hid (Below W1.heap.size W1 W1) := Lib.hid (Below.refl _ W1)
  have HKN : Hid (∀ W', Below W1.heap.size W1 W' → Calls Try.prog 69 #[.pointer (some ⟨B, 0, none⟩), idv id] W' fun e w' => e = .returned (.bool true) ∧ Below W1.heap.size W1 w') := Lib.hid fun W' hb => (knows_any (HR1.out.below hb) id HID.out).mono fun e w' ⟨he, hb'⟩ => ⟨by rw [he, HS.out.2], hb.trans (hb'.mono hb.size)⟩
  go_enter Try.func59, Try.ntmps59
  go_upto_region 1 with fail
  clear hW
  go_wp2_with (first
    | (guard_target = wpList _ _ _ (Oper.mk _ (.load 24 _) _ _ _ _ :: _) _ _; refine wpList_load_runS (by rfl) 24 _ rfl _ _ rfl (HLD.out _ HBQ.out) ?_)
    | (guard_target = wpList _ _ _ (Oper.mk _ (.build 24 _) _ _ _ _ :: _) _ _; refine wpList_build_zero rfl rfl ?_)
    | (go_at_call 69; refine (HKN.out _ HBQ.out).mono ?_; rintro e W2 ⟨rfl, hb2⟩; have HBQ := Lib.hid hb2; have HR2 := Lib.hid (HR1.out.below hb2); clear hb2; have c103 : W2.cell? ⟨B, 103, none⟩ = some kv := HR2.out.cell (i := 103) (by omega)))
  go_end0
  exact ⟨⟨_, rfl⟩, HB1.out.trans (HBQ.out.mono HB1.out.size)⟩
set_option maxRecDepth 100000 in
set_option maxHeartbeats 8000000 in
theorem rem_full {W : World} {B C M n : Nat} {kv : Value} {s : RdS} (h : RoundAt W B C M n kv s) (id : List UInt8) (hid : IdOk id) (hs : id ≠ zeroId ∧ hasI s.known id = false ∧ ¬ s.known.length < 32) : Calls Try.prog 59 #[.pointer (some ⟨B, 0, none⟩), .agg (idC id)] W fun e w' => (∃ v, e = .returned v) ∧ Below W.heap.size W w' := by
  obtain ⟨W1, hW⟩ : ∃ W1, W.alloc (.cells (idC id) 24) = W1 := ⟨_, rfl⟩
  have hb1 : Below W.heap.size W W1 := by rw [← hW]; exact (Below.refl _ _).alloc (Nat.le_refl _) _
  have k1 : Blk W1 W.heap.size 24 (idC id) := by rw [← hW]; exact Blk.new _ _ _
  have HB1 := Lib.hid hb1
  have HK1 := Lib.hid k1
  have HID := Lib.hid hid
  have HS := Lib.hid hs
  have HR := Lib.hid h
  have HR1 := Lib.hid (h.below hb1)
  have hne := fun W => neq_idv hid zeroId_ok W
  have hgu := fun W a b => guardn_idv a b id zeroId W
  have HLD : Hid (∀ W', Below W1.heap.size W1 W' → (Instr.loadAt 24 (.pointer (some ⟨W.heap.size, 0, none⟩))).run Try.prog W' = .ok (idv id) W') := Lib.hid fun W' hb => run_loadVar_idv hid (k1.below hb k1.lt)
  rw [show (id == zeroId) = false from by rw [beq_eq_false_iff_ne]; exact hs.1] at hne
  clear hid hb1 k1 h hs
  have HBQ : Hid (Below W1.heap.size W1 W1) := Lib.hid (Below.refl _ W1)
  have HKN : Hid (∀ W', Below W1.heap.size W1 W' → Calls Try.prog 69 #[.pointer (some ⟨B, 0, none⟩), idv id] W' fun e w' => e = .returned (.bool false) ∧ Below W1.heap.size W1 w') := Lib.hid fun W' hb => (knows_any (HR1.out.below hb) id HID.out).mono fun e w' ⟨he, hb'⟩ => ⟨by rw [he, HS.out.2.1], hb.trans (hb'.mono hb.size)⟩
  obtain ⟨A0, c0, hkv⟩ : ∃ A0 c0, kv = .slice A0 s.known.length c0 := by
    obtain ⟨-, A0, c0, hkv, -⟩ := HR.out.known
    exact ⟨A0, c0, hkv⟩
  obtain ⟨kn, hkn⟩ : ∃ kn, s.known.length = kn := ⟨_, rfl⟩
  rw [hkn] at hkv
  subst hkv
  have HKL := Lib.hid hkn
  have hn1 : ¬ (kn : Int) < 32 := by have := HS.out.2.2; omega
  clear hkn
  go_enter Try.func59, Try.ntmps59
  go_upto_region 1 with fail
  clear hW
  go_wp2_with (first
    | (guard_target = wpList _ _ _ (Oper.mk _ (.load 24 _) _ _ _ _ :: _) _ _; refine wpList_load_runS (by rfl) 24 _ rfl _ _ rfl (HLD.out _ HBQ.out) ?_)
    | (guard_target = wpList _ _ _ (Oper.mk _ (.build 24 _) _ _ _ _ :: _) _ _; refine wpList_build_zero rfl rfl ?_)
    | (go_at_call 69; refine (HKN.out _ HBQ.out).mono ?_; rintro e W2 ⟨rfl, hb2⟩; have HBQ := Lib.hid hb2; have HR2 := Lib.hid (HR1.out.below hb2); clear hb2; have c103 : W2.cell? ⟨B, 103, none⟩ = some (.slice A0 kn c0) := HR2.out.cell (i := 103) (by omega)))
  go_end0
  exact ⟨⟨_, rfl⟩, HB1.out.trans (HBQ.out.mono HB1.out.size)⟩
theorem RoundAt.neKC {W : World} {B C M n : Nat} {kv : Value} {s : RdS} (h : RoundAt W B C M n kv s) : kv.ownBlock ≠ some C := fun e => by
  rcases h.own.2 with ⟨rfl, _⟩ | ⟨g, cap, cur, rfl, _, hg, _⟩
  · cases e
  · injection e with e
    exact blk_ne (B := g) (cs := cur) hg h.cnt.blk (by decide) e
theorem own_cells {W : World} {b e k n : Nat} {v : Value} {xs : List Value} (h : W.ownsRow b e k v n xs) : v.cells = #[v] ∧ v.oneCell' = true := by
  rcases h.2 with ⟨rfl, _⟩ | ⟨g, cap, cur, rfl, _⟩
  · exact ⟨rfl, rfl⟩
  · exact ⟨rfl, rfl⟩
theorem RoundAt.addKnown {W W5 W6 : World} {B C M n : Nat} {kv v5 : Value} {s : RdS} {id : List UInt8} (h : RoundAt W B C M n kv s) (hg5 : W.grownBy W5 kv.ownBlock) (how5 : W5.ownsRow 0 24 32 v5 (s.known.length + 1) (idsC s.known ++ idsC [id]))
    (hor : v5.ownBlock = kv.ownBlock ∨ ∃ g, v5.ownBlock = some g ∧ W.heap.size ≤ g) (hb6 : Blk W6 B 132 (arr 549 (rdF s v5 (.pointer (some ⟨C, 0, none⟩))))) (hg6 : W5.grownBy W6 (some B)) (hlen : s.known.length < 32) (hid : IdOk id) :
    RoundAt W6 B C M n v5 { s with known := s.known ++ [id] } ∧ Chg W W6 B M kv v5 := by
  have hne5 : v5.ownBlock ≠ some B := by
    rcases hor with e | ⟨g, e, hg⟩
    · rw [e]
      exact h.neK
    · rw [e]
      intro e2
      injection e2 with e2
      have := h.lt
      omega
  refine ⟨⟨hb6, ?_, ?_, ⟨h.ok.voters, h.ok.me, h.ok.height, h.ok.round, h.ok.step, h.ok.early, h.ok.fresh, h.ok.lockR, h.ok.lock, h.ok.bestR, h.ok.best, ⟨?_, ?_⟩, h.ok.le, h.ok.offers⟩⟩, hg6.os.trans hg5.os, hg6.tape.trans hg5.tape, hg6.output.trans hg5.output, Nat.le_trans hg5.size hg6.size, fun k hk h1 _ h3 => (hg6.block k (Nat.lt_of_lt_of_le hk hg5.size) fun e => h1 (Option.some.inj e)).trans (hg5.block k hk h3), hor⟩
  · have hC5 := hg5.block C h.cnt.ltB fun e => h.neKC e.symm
    have hM5 := hg5.block M h.cnt.ltM fun e => h.neKM e.symm
    exact h.cnt.same ((hg6.block C (Nat.lt_of_lt_of_le h.cnt.ltB hg5.size) fun e => h.neC (Option.some.inj e).symm).trans hC5) ((hg6.block M (Nat.lt_of_lt_of_le h.cnt.ltM hg5.size) fun e => h.neM (Option.some.inj e).symm).trans hM5)
  · have := how5.kept hg6 (.inr hne5)
    rw [← idsC_append] at this
    simpa using this
  · simp only [List.length_append, List.length_singleton]
    omega
  · intro x hx
    rcases List.mem_append.1 hx with hx | hx
    · exact h.ok.known.2 x hx
    · rw [List.mem_singleton] at hx
      rw [hx]
      exact hid
theorem run_build_id (v : List UInt8) (hv : IdOk v) (w : World) : (Instr.buildSlice 49 1 #[(0, .agg (idC v))]).run Try.prog w = .ok (.slice (some ⟨w.heap.size, 0, none⟩) 1 1) (w.alloc (.cells (idC v) 24)) := by
  have hf := idP_built v hv
  unfold Program.builtSlice at hf
  cases hie : Try.prog.info? 24 with
  | none => simp [hie] at hf
  | some ie =>
    simp only [hie] at hf
    cases hz : ie.zero with
    | none => simp [hz] at hf
    | some z =>
      simp only [hz] at hf
      by_cases hc : 1 * ie.size > 2 ^ 24 ∨ 1 * ie.size = 0
      · rw [if_pos hc] at hf
        cases hf
      · rw [if_neg hc] at hf
        exact run_buildSlice w 49 24 1 #[(0, .agg (idC v))] _ ie z Try.underlying49 hie hz (fun h' => hc (Or.inl h')) (fun h' => hc (Or.inr h')) hf
theorem oper_build_id {o : Oper} {a : Act} {w : World} {K : Act → World → Prop} {Q : Exit → Act → World → Prop} (x : Operand) (ho : o.op = .buildSlice 49 1 #[(0, x)]) (v : List UInt8) (hv : IdOk v) (hx : a.eval x = .agg (idC v))
    (h : K (a.put o.dst (.slice (some ⟨w.heap.size, 0, none⟩) 1 1)) (w.alloc (.cells (idC v) 24))) : Oper.wp Try.prog o a w K Q := by
  have hr := run_build_id v hv w
  have hp : (#[(0, x)] : Array (Nat × Operand)).map (fun (i, x) => (i, a.eval x)) = #[(0, .agg (idC v))] := by simp [hx]
  unfold Oper.wp execOp
  simp only [ho, hp, Sem.run_bind, hr, Result.andThen_ok]
  exact h
set_option maxRecDepth 100000 in
set_option maxHeartbeats 8000000 in
theorem rem_new {W : World} {B C M n : Nat} {kv : Value} {s : RdS} (h : RoundAt W B C M n kv s) (id : List UInt8) (hid : IdOk id) (hs : id ≠ zeroId ∧ hasI s.known id = false ∧ s.known.length < 32) : Calls Try.prog 59 #[.pointer (some ⟨B, 0, none⟩), .agg (idC id)] W fun e w' => (∃ v, e = .returned v) ∧ ∃ kv', RoundAt w' B C M n kv' { s with known := s.known ++ [id] } ∧ Chg W w' B M kv kv' := by
  obtain ⟨W1, hW⟩ : ∃ W1, W.alloc (.cells (idC id) 24) = W1 := ⟨_, rfl⟩
  have hb1 : Below W.heap.size W W1 := by rw [← hW]; exact (Below.refl _ _).alloc (Nat.le_refl _) _
  have k1 : Blk W1 W.heap.size 24 (idC id) := by rw [← hW]; exact Blk.new _ _ _
  have HB1 := Lib.hid hb1
  have HK1 := Lib.hid k1
  have HID := Lib.hid hid
  have HS := Lib.hid hs
  have HR := Lib.hid h
  have HR1 := Lib.hid (h.below hb1)
  have hne := fun W => neq_idv hid zeroId_ok W
  have hgu := fun W a b => guardn_idv a b id zeroId W
  have HLD : Hid (∀ W', Below W1.heap.size W1 W' → (Instr.loadAt 24 (.pointer (some ⟨W.heap.size, 0, none⟩))).run Try.prog W' = .ok (idv id) W') := Lib.hid fun W' hb => run_loadVar_idv hid (k1.below hb k1.lt)
  rw [show (id == zeroId) = false from by rw [beq_eq_false_iff_ne]; exact hs.1] at hne
  clear hid hb1 k1 h hs
  have HBQ : Hid (Below W1.heap.size W1 W1) := Lib.hid (Below.refl _ W1)
  have HKN : Hid (∀ W', Below W1.heap.size W1 W' → Calls Try.prog 69 #[.pointer (some ⟨B, 0, none⟩), idv id] W' fun e w' => e = .returned (.bool false) ∧ Below W1.heap.size W1 w') := Lib.hid fun W' hb => (knows_any (HR1.out.below hb) id HID.out).mono fun e w' ⟨he, hb'⟩ => ⟨by rw [he, HS.out.2.1], hb.trans (hb'.mono hb.size)⟩
  have HLB := Lib.hid HR.out.lt
  have HRK : Hid (∀ g, kv.ownBlock = some g → g < W.heap.size) := Lib.hid fun g e => (HR.out.own.lt g e).2
  obtain ⟨A0, c0, hkv⟩ : ∃ A0 c0, kv = .slice A0 s.known.length c0 := by
    obtain ⟨-, A0, c0, hkv, -⟩ := HR.out.known
    exact ⟨A0, c0, hkv⟩
  obtain ⟨kn, hkn⟩ : ∃ kn, s.known.length = kn := ⟨_, rfl⟩
  rw [hkn] at hkv
  subst hkv
  have HKL := Lib.hid hkn
  have hn1 : (kn : Int) < 32 := by have := HS.out.2.2; omega
  clear hkn
  go_enter Try.func59, Try.ntmps59
  go_upto_region 1 with fail
  clear hW
  go_upto_region 2 with (first
    | (guard_target = wpList _ _ _ (Oper.mk _ (.load 24 _) _ _ _ _ :: _) _ _; refine wpList_load_runS (by rfl) 24 _ rfl _ _ rfl (HLD.out _ HBQ.out) ?_)
    | (guard_target = wpList _ _ _ (Oper.mk _ (.build 24 _) _ _ _ _ :: _) _ _; refine wpList_build_zero rfl rfl ?_)
    | (go_at_call 69; refine (HKN.out _ HBQ.out).mono ?_; rintro e W2 ⟨rfl, hb2⟩; have HBQ := Lib.hid hb2; have HR2 := Lib.hid (HR1.out.below hb2); clear hb2; have c103 : W2.cell? ⟨B, 103, none⟩ = some (.slice A0 kn c0) := HR2.out.cell (i := 103) (by omega)))
  have hbX : Below W2.heap.size W2 W2.drew := (Below.refl _ W2).drew
  have HC3 : Hid (∀ W', Below W2.heap.size W2 W' → (Instr.loadAt 49 (.pointer (some ⟨B, 103, none⟩))).run Try.prog W' = .ok (.slice A0 kn c0) W') := Lib.hid fun W' hb => loadVar_one Try.underlying49 rfl ((HR2.out.below hb).cell (i := 103) (by omega))
  clear c103
  refine wp_region_held_drew (S := fun W' => (Instr.loadAt 24 (.pointer (some ⟨W.heap.size, 0, none⟩))).run Try.prog W' = .ok (idv id) W') (by kernel_rfl) ?_ (fun hHeld => ?_)
  · exact (HLD.out _ (HBQ.out.trans (hbX.mono HBQ.out.size)))
  refine tkH (v := ?_) 0 ⟨some 21, _, _, _, _, _⟩ rfl (Or.inl ⟨by rfl, ?_⟩) ?_
  rotate_left
  · intro w hSw; (try dsimp only at hSw); go_simp; try (with_reducible rfl)
  try simp only [Act.put, nz1, nz2, nz3]
  refine tkH (v := ?_) 1 ⟨some 22, _, _, _, _, _⟩ rfl (Or.inl ⟨by rfl, ?_⟩) ?_
  rotate_left
  · intro w hSw; (try dsimp only at hSw); go_simp; try (with_reducible rfl)
  try simp only [Act.put, nz1, nz2, nz3]
  refine tkH (v := ?_) 2 ⟨some 23, _, _, _, _, _⟩ rfl (Or.inl ⟨by rfl, ?_⟩) ?_
  rotate_left
  · intro w hSw; (try dsimp only at hSw); go_simp; try (with_reducible rfl)
  try simp only [Act.put, nz1, nz2, nz3]
  refine tkH (v := ?_) 3 ⟨some 24, _, _, _, _, _⟩ rfl (Or.inl ⟨by rfl, ?_⟩) ?_
  rotate_left
  · intro w hSw; (try dsimp only at hSw); go_simp; try (with_reducible rfl)
  try simp only [Act.put, nz1, nz2, nz3]
  refine tkH (v := (idv id)) 5 ⟨some 26, _, _, _, _, _⟩ rfl (yields_run (by rfl) 24 _ rfl (.pointer (some ⟨W.heap.size, 0, none⟩)) _ rfl (fun W' hS => hS)) ?_
  try simp only [Act.put, nz1, nz2, nz3]
  refine wpAnyH_ready (rs := [4, 6]) (by kernel_rfl) (by simp) ?_
  refine (AllReadyH.cons (o := ⟨some 25, _, _, _, _, _⟩) rfl (fun K hK => ?_) (AllReadyH.cons (o := ⟨some 27, _, _, _, _, _⟩) rfl (fun K hK => ?_) AllReadyH.nil))
  · (try rw [if_pos (by rfl)])
    refine oper_load 49 _ rfl _ _ rfl (HC3.out _ hbX) ?_
    try simp only [Act.put, nz1, nz2, nz3]
    try dsimp only
    refine hK.out _ _ ((by first | exact HL6.out | exact HL5.out | exact HLD.out _ (HBQ.out.trans (hbX.mono HBQ.out.size)))) (fun hHeld => ?_)
    clear hK K
    try simp only [Act.put, nz1, nz2, nz3]
    refine wpAnyH_ready (rs := [6]) (by kernel_rfl) (by simp) ?_
    refine (AllReadyH.cons (o := ⟨some 27, _, _, _, _, _⟩) rfl (fun K hK => ?_) AllReadyH.nil)
    (try rw [if_pos (by rfl)])
    refine oper_build_id _ rfl id HID.out rfl ?_
    have HRD6 := Lib.hid (rdI_new W2.drew id HID.out)
    have hbX := (Below.refl _ W2).drew.alloc (Nat.le_refl _) (.cells (idC id) 24)
    have HOW6 := Lib.hid (rowV_kept HR2.out.own hbX)
    have HB6 := Lib.hid hbX
    try dsimp only
    refine hK.out _ _ ((by first | exact HL6.out | exact HL5.out | exact HLD.out _ (HBQ.out.trans (hbX.mono HBQ.out.size)))) (fun hHeld => ?_)
    clear hK K
    try simp only [Act.put, nz1, nz2, nz3]
    refine wpAnyH_ready (rs := [7]) (by kernel_rfl) (by simp) ?_
    refine (AllReadyH.cons (o := ⟨some 28, _, _, _, _, _⟩) rfl (fun K hK => ?_) AllReadyH.nil)
    (try rw [if_pos (by rfl)])
    obtain ⟨v5, W5, hrun, how5, hg5, hor5⟩ := app_ids (Nat.zero_le _) HOW6.out HRD6.out (by have := HS.out.2.2; omega)
    refine oper_append _ _ _ _ rfl _ _ rfl rfl v5 W5 hrun ?_
    have HOW5 := Lib.hid how5
    have HG5 := Lib.hid hg5
    have HOR5 : Hid (v5.ownBlock = Value.ownBlock (.slice A0 kn c0) ∨ ∃ g, v5.ownBlock = some g ∧ W2.heap.size ≤ g) := Lib.hid (hor5.imp (fun e => e) fun e => ⟨_, e, HB6.out.size⟩)
    have HBK5 : Hid (Blk W5 B 132 (arr 549 (rdF s (.slice A0 kn c0) (.pointer (some ⟨C, 0, none⟩))))) := Lib.hid ((HR2.out.blk.below HB6.out HR2.out.lt).grown hg5 fun e => HR2.out.neK e.symm)
    have HL5 : Hid ((Instr.loadAt 24 (.pointer (some ⟨W.heap.size, 0, none⟩))).run Try.prog W5 = .ok (idv id) W5) := Lib.hid (run_loadVar_idv HID.out (((HK1.out.below HBQ.out HK1.out.lt).below HB6.out (HK1.out.below HBQ.out HK1.out.lt).lt).grown hg5 fun e => Nat.lt_irrefl _ (HRK.out _ e.symm)))
    clear hrun how5 hg5 hor5 hbX
    try dsimp only
    refine hK.out _ _ ((by first | exact HL6.out | exact HL5.out | exact HLD.out _ (HBQ.out.trans (hbX.mono HBQ.out.size)))) (fun hHeld => ?_)
    clear hK K
    try simp only [Act.put, nz1, nz2, nz3]
    refine tkH (v := ?_) 8 ⟨some 29, _, _, _, _, _⟩ rfl (Or.inl ⟨by rfl, ?_⟩) ?_
    rotate_left
    · intro w hSw; (try dsimp only at hSw); go_simp; try (with_reducible rfl)
    try simp only [Act.put, nz1, nz2, nz3]
    refine tkH (v := ?_) 9 ⟨some 30, _, _, _, _, _⟩ rfl (Or.inl ⟨by rfl, ?_⟩) ?_
    rotate_left
    · intro w hSw; (try dsimp only at hSw); go_simp; try (with_reducible rfl)
    try simp only [Act.put, nz1, nz2, nz3]
    refine wpAnyH_ready (rs := [10]) (by kernel_rfl) (by simp) ?_
    refine (AllReadyH.cons (o := ⟨none, _, _, _, _, _⟩) rfl (fun K hK => ?_) AllReadyH.nil)
    (try rw [if_pos (by rfl)])
    refine oper_store_val 49 _ _ rfl B 103 549 _ v5 (own_cells HOW5.out).1 (own_cells HOW5.out).2 rfl rfl 132 HBK5.out (by kernel_rfl) (by omega) ?_
    intro W6 hw6
    have HBK6 : Hid (Blk W6 B 132 (arr 549 (rdF s v5 (.pointer (some ⟨C, 0, none⟩))))) := Lib.hid (by rw [hw6]; exact (HBK5.out.setRow _).same (rd_known s _ v5 _))
    have HG6 : Hid (W5.grownBy W6 (some B)) := Lib.hid (by rw [hw6]; exact grown_row _ _ _)
    have HL6 : Hid ((Instr.loadAt 24 (.pointer (some ⟨W.heap.size, 0, none⟩))).run Try.prog W6 = .ok (idv id) W6) := Lib.hid (run_loadVar_idv HID.out ((((HK1.out.below HBQ.out HK1.out.lt).below HB6.out (HK1.out.below HBQ.out HK1.out.lt).lt).grown HG5.out fun e => Nat.lt_irrefl _ (HRK.out _ e.symm)).grown HG6.out fun e => by have := HLB.out; injection e with e; omega))
    clear hw6
    try dsimp only
    refine hK.out _ _ ((by first | exact HL6.out | exact HL5.out | exact HLD.out _ (HBQ.out.trans (hbX.mono HBQ.out.size)))) (fun hHeld => ?_)
    clear hK K
    try simp only [Act.put]
    refine wpAnyH_done (by kernel_rfl) ?_ _
    go_wp2_with fail
    go_end0
    have hfin := RoundAt.addKnown HR2.out (grown_trans (grown_of_below HB6.out _) HG5.out) HOW5.out HOR5.out HBK6.out HG6.out HS.out.2.2 HID.out
    exact ⟨⟨_, rfl⟩, v5, hfin.1, (Chg.ofBelow (HB1.out.trans (HBQ.out.mono HB1.out.size))).trans hfin.2⟩
  · (try rw [if_pos (by rfl)])
    refine oper_build_id _ rfl id HID.out rfl ?_
    have HRD6 := Lib.hid (rdI_new W2.drew id HID.out)
    have hbX := (Below.refl _ W2).drew.alloc (Nat.le_refl _) (.cells (idC id) 24)
    have HOW6 := Lib.hid (rowV_kept HR2.out.own hbX)
    have HB6 := Lib.hid hbX
    try dsimp only
    refine hK.out _ _ ((by first | exact HL6.out | exact HL5.out | exact HLD.out _ (HBQ.out.trans (hbX.mono HBQ.out.size)))) (fun hHeld => ?_)
    clear hK K
    try simp only [Act.put, nz1, nz2, nz3]
    refine wpAnyH_ready (rs := [4]) (by kernel_rfl) (by simp) ?_
    refine (AllReadyH.cons (o := ⟨some 25, _, _, _, _, _⟩) rfl (fun K hK => ?_) AllReadyH.nil)
    (try rw [if_pos (by rfl)])
    refine oper_load 49 _ rfl _ _ rfl (HC3.out _ hbX) ?_
    try simp only [Act.put, nz1, nz2, nz3]
    try dsimp only
    refine hK.out _ _ ((by first | exact HL6.out | exact HL5.out | exact HLD.out _ (HBQ.out.trans (hbX.mono HBQ.out.size)))) (fun hHeld => ?_)
    clear hK K
    try simp only [Act.put, nz1, nz2, nz3]
    refine wpAnyH_ready (rs := [7]) (by kernel_rfl) (by simp) ?_
    refine (AllReadyH.cons (o := ⟨some 28, _, _, _, _, _⟩) rfl (fun K hK => ?_) AllReadyH.nil)
    (try rw [if_pos (by rfl)])
    obtain ⟨v5, W5, hrun, how5, hg5, hor5⟩ := app_ids (Nat.zero_le _) HOW6.out HRD6.out (by have := HS.out.2.2; omega)
    refine oper_append _ _ _ _ rfl _ _ rfl rfl v5 W5 hrun ?_
    have HOW5 := Lib.hid how5
    have HG5 := Lib.hid hg5
    have HOR5 : Hid (v5.ownBlock = Value.ownBlock (.slice A0 kn c0) ∨ ∃ g, v5.ownBlock = some g ∧ W2.heap.size ≤ g) := Lib.hid (hor5.imp (fun e => e) fun e => ⟨_, e, HB6.out.size⟩)
    have HBK5 : Hid (Blk W5 B 132 (arr 549 (rdF s (.slice A0 kn c0) (.pointer (some ⟨C, 0, none⟩))))) := Lib.hid ((HR2.out.blk.below HB6.out HR2.out.lt).grown hg5 fun e => HR2.out.neK e.symm)
    have HL5 : Hid ((Instr.loadAt 24 (.pointer (some ⟨W.heap.size, 0, none⟩))).run Try.prog W5 = .ok (idv id) W5) := Lib.hid (run_loadVar_idv HID.out (((HK1.out.below HBQ.out HK1.out.lt).below HB6.out (HK1.out.below HBQ.out HK1.out.lt).lt).grown hg5 fun e => Nat.lt_irrefl _ (HRK.out _ e.symm)))
    clear hrun how5 hg5 hor5 hbX
    try dsimp only
    refine hK.out _ _ ((by first | exact HL6.out | exact HL5.out | exact HLD.out _ (HBQ.out.trans (hbX.mono HBQ.out.size)))) (fun hHeld => ?_)
    clear hK K
    try simp only [Act.put, nz1, nz2, nz3]
    refine tkH (v := ?_) 8 ⟨some 29, _, _, _, _, _⟩ rfl (Or.inl ⟨by rfl, ?_⟩) ?_
    rotate_left
    · intro w hSw; (try dsimp only at hSw); go_simp; try (with_reducible rfl)
    try simp only [Act.put, nz1, nz2, nz3]
    refine tkH (v := ?_) 9 ⟨some 30, _, _, _, _, _⟩ rfl (Or.inl ⟨by rfl, ?_⟩) ?_
    rotate_left
    · intro w hSw; (try dsimp only at hSw); go_simp; try (with_reducible rfl)
    try simp only [Act.put, nz1, nz2, nz3]
    refine wpAnyH_ready (rs := [10]) (by kernel_rfl) (by simp) ?_
    refine (AllReadyH.cons (o := ⟨none, _, _, _, _, _⟩) rfl (fun K hK => ?_) AllReadyH.nil)
    (try rw [if_pos (by rfl)])
    refine oper_store_val 49 _ _ rfl B 103 549 _ v5 (own_cells HOW5.out).1 (own_cells HOW5.out).2 rfl rfl 132 HBK5.out (by kernel_rfl) (by omega) ?_
    intro W6 hw6
    have HBK6 : Hid (Blk W6 B 132 (arr 549 (rdF s v5 (.pointer (some ⟨C, 0, none⟩))))) := Lib.hid (by rw [hw6]; exact (HBK5.out.setRow _).same (rd_known s _ v5 _))
    have HG6 : Hid (W5.grownBy W6 (some B)) := Lib.hid (by rw [hw6]; exact grown_row _ _ _)
    have HL6 : Hid ((Instr.loadAt 24 (.pointer (some ⟨W.heap.size, 0, none⟩))).run Try.prog W6 = .ok (idv id) W6) := Lib.hid (run_loadVar_idv HID.out ((((HK1.out.below HBQ.out HK1.out.lt).below HB6.out (HK1.out.below HBQ.out HK1.out.lt).lt).grown HG5.out fun e => Nat.lt_irrefl _ (HRK.out _ e.symm)).grown HG6.out fun e => by have := HLB.out; injection e with e; omega))
    clear hw6
    try dsimp only
    refine hK.out _ _ ((by first | exact HL6.out | exact HL5.out | exact HLD.out _ (HBQ.out.trans (hbX.mono HBQ.out.size)))) (fun hHeld => ?_)
    clear hK K
    try simp only [Act.put]
    refine wpAnyH_done (by kernel_rfl) ?_ _
    go_wp2_with fail
    go_end0
    have hfin := RoundAt.addKnown HR2.out (grown_trans (grown_of_below HB6.out _) HG5.out) HOW5.out HOR5.out HBK6.out HG6.out HS.out.2.2 HID.out
    exact ⟨⟨_, rfl⟩, v5, hfin.1, (Chg.ofBelow (HB1.out.trans (HBQ.out.mono HB1.out.size))).trans hfin.2⟩
theorem remember_any {W : World} {B C M n : Nat} {kv : Value} {s : RdS} (h : RoundAt W B C M n kv s) (id : List UInt8) (hid : IdOk id) : Calls Try.prog 59 #[.pointer (some ⟨B, 0, none⟩), .agg (idC id)] W fun e w' => (∃ v, e = .returned v) ∧ ∃ kv', RoundAt w' B C M n kv' (remS s id) ∧ Chg W w' B M kv kv' := by
  by_cases hz : id = zeroId
  · have e : remS s id = s := by unfold remS; rw [if_neg (by simp [hz])]
    rw [e]
    exact (rem_zero h id hid hz).mono fun e w' ⟨h1, h2⟩ => ⟨h1, kv, h.below h2, Chg.ofBelow h2⟩
  · cases hh : hasI s.known id with
    | true =>
      have e : remS s id = s := by unfold remS; rw [if_neg (by simp [hh])]
      rw [e]
      exact (rem_has h id hid ⟨hz, hh⟩).mono fun e w' ⟨h1, h2⟩ => ⟨h1, kv, h.below h2, Chg.ofBelow h2⟩
    | false =>
      by_cases hl : s.known.length < 32
      · have e : remS s id = { s with known := s.known ++ [id] } := by unfold remS; rw [if_pos ⟨hz, hh, hl⟩]
        rw [e]
        exact rem_new h id hid ⟨hz, hh, hl⟩
      · have e : remS s id = s := by unfold remS; rw [if_neg (by simp [hl])]
        rw [e]
        exact (rem_full h id hid ⟨hz, hh, hl⟩).mono fun e w' ⟨h1, h2⟩ => ⟨h1, kv, h.below h2, Chg.ofBelow h2⟩
end Go.Proofs.Ytbgojlcciealiaa
