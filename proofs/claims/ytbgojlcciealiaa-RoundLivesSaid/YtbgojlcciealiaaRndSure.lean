/-
  One's way to agreement: what is sure, and known. No condition.
-/
import Derived.Test.YtbgojlcciealiaaRndCast
import Derived.Test.YtbgojlcciealiaaCntSure
namespace Go.Proofs.Ytbgojlcciealiaa
open Go Go.RowKit Go.Maps

/-- What is sure by a round's votes of a kind, isn't nothing, and is known. -/
def sureS (s : RdS) (r k : Int) : Option (List UInt8) := match sureO s.voters s.votes r k with
  | none => none
  | some id => if id == nilId || !hasI s.known id then none else some id
theorem sureO_okR {W : World} {B M n : Nat} {NN : Nat} {V : Vt} (h : CountAt W B M n NN V) {r k : Int} {x : List UInt8} (hx : sureO NN V r k = some x) : IdOk x ∧ x ≠ zeroId := by
  unfold sureO at hx
  rw [Option.map_eq_some_iff] at hx
  obtain ⟨⟨i, y⟩, hy, rfl⟩ := hx
  have hm := List.mem_of_find?_eq_some hy
  unfold castL at hm
  rw [List.mem_filterMap] at hm
  obtain ⟨j, _, hj⟩ := hm
  rw [Option.map_eq_some_iff] at hj
  obtain ⟨z, hz, he⟩ := hj
  injection he with _ he
  subst he
  exact h.ids r k j z hz
set_option maxRecDepth 100000 in
set_option maxHeartbeats 8000000 in
theorem sure_none {W : World} {B C M n : Nat} {kv : Value} {s : RdS} (h : RoundAt W B C M n kv s) (r k : Int) (hr : wfi r) (hk : wfi k) (hs : sureO s.voters s.votes r k = none) : Calls Try.prog 78 #[.pointer (some ⟨B, 0, none⟩), .int .i64 r, .int .i64 k] W fun e w' => e = .returned (.tuple #[idv ((sureS s r k).getD zeroId), .bool (sureS s r k).isSome]) ∧ Below W.heap.size W w' := by
  have HR := Lib.hid h
  have HS := Lib.hid hs
  have HID : Hid (IdOk (zeroId)) := Lib.hid zeroId_ok
  have HSU : Hid (∀ W', Below W.heap.size W W' → Calls Try.prog 22 #[.pointer (some ⟨C, 0, none⟩), .int .i64 r, .int .i64 k] W' fun e w' => e = .returned (.tuple #[idv (zeroId), .bool false]) ∧ Below W'.heap.size W' w') := Lib.hid fun W' hb => (sure_any (h.below hb).cnt r k hr hk h.ok.voters.2.1).mono fun e w' ⟨he, hb'⟩ => ⟨by rw [he, hs]; rfl, hb'⟩
  clear h hs hr hk
  go_enter Try.func78, Try.ntmps78
  go_upto_region 1 with fail
  generalize hW : World.alloc _ _ = W1
  have hb1 : Below W.heap.size W W1 := by rw [← hW]; exact (Below.refl _ _).alloc (Nat.le_refl _) _
  obtain ⟨old, hk1, ho1⟩ : ∃ old, Blk W1 W.heap.size 24 old ∧ old.size = 32 := by rw [← hW]; exact ⟨_, Blk.newAt _ _ rfl rfl, rfl⟩
  have HB1 := Lib.hid hb1
  have HK1 := Lib.hid hk1
  have HO1 := Lib.hid ho1
  have c548 : W1.cell? ⟨B, 548, none⟩ = some (.pointer (some ⟨C, 0, none⟩)) := (HR.out.below hb1).cell (i := 548) (by omega)
  clear hb1 hk1 ho1 hW
  go_upto_region 2 with (first
    | (go_at_call 22; refine (HSU.out _ HB1.out).mono ?_; rintro e W2 ⟨rfl, hb2⟩; have HB2 := Lib.hid hb2; clear hb2)
    | (guard_target = wpList _ _ _ (Oper.mk _ (.store 24 _ _) _ _ _ _ :: _) _ _; refine wpList_store_idv rfl _ _ rfl W2.heap.size (zeroId) rfl rfl HID.out 24 _ (Blk.newAt _ _ rfl rfl) rfl ?_; intro W3 hS3 hz3 hb3 hk3; have HK8 := Lib.hid hS3; have HB3 := Lib.hid (((Below.refl _ W2).alloc (Nat.le_refl _) _).trans hb3); clear hS3 hz3 hb3 hk3))
  have HBW : Hid (Below W.heap.size W W3) := Lib.hid (HB1.out.trans ((HB2.out.trans (HB3.out.mono HB2.out.size)).mono HB1.out.size))
  have HK6 : Hid (Blk W3 W.heap.size 24 old) := Lib.hid ((HK1.out.below HB2.out HK1.out.lt).below HB3.out (HK1.out.below HB2.out HK1.out.lt).lt)
  have HLD : Hid (∀ W', Below W3.heap.size W3 W' → (Instr.loadAt 24 (.pointer (some ⟨W2.heap.size, 0, none⟩))).run Try.prog W' = .ok (idv (zeroId)) W') := Lib.hid fun W' hb => run_loadVar_idv HID.out (HK8.out.below hb HK8.out.lt)
  have HNI : Hid (∀ W', Below W3.heap.size W3 W' → Calls Try.prog 35 #[] W' fun e w' => e = .returned (idv nilId) ∧ Below W'.heap.size W' w') := Lib.hid fun W' _ => nil_any W'
  have HKN : Hid (∀ W', Below W3.heap.size W3 W' → Calls Try.prog 69 #[.pointer (some ⟨B, 0, none⟩), idv (zeroId)] W' fun e w' => e = .returned (.bool (hasI s.known (zeroId))) ∧ Below W'.heap.size W' w') := Lib.hid fun W' hb => knows_any (HR.out.below (HBW.out.trans (hb.mono HBW.out.size))) _ HID.out
  have hbX : Below W3.heap.size W3 W3.drew := (Below.refl _ W3).drew
  have HFIN : Hid (sureS s r k = none) := Lib.hid (by have := HS.out; unfold sureS; rw [this])
  refine wp_region_held_drew (S := fun W' => Below W3.heap.size W3 W') (by kernel_rfl) ?_ (fun hHeld => ?_)
  · exact hbX
  refine tkH (v := ?_) 0 ⟨some 20, _, _, _, _, _⟩ rfl (Or.inl ⟨by rfl, ?_⟩) ?_
  rotate_left
  · intro w hSw; (try dsimp only at hSw); go_simp; try (with_reducible rfl)
  try simp only [Act.put, nz1, nz2, nz3]
  refine tkH (v := ?_) 1 ⟨some 21, _, _, _, _, _⟩ rfl (Or.inl ⟨by rfl, ?_⟩) ?_
  rotate_left
  · intro w hSw; (try dsimp only at hSw); go_simp; try (with_reducible rfl)
  try simp only [Act.put, nz1, nz2, nz3]
  refine tkH (v := ?_) 2 ⟨some 22, _, _, _, _, _⟩ rfl (Or.inl ⟨by rfl, ?_⟩) ?_
  rotate_left
  · intro w hSw; (try dsimp only at hSw); go_simp; try (with_reducible rfl)
  try simp only [Act.put, nz1, nz2, nz3]
  refine tkH (v := undef) 3 ⟨some 23, _, _, _, _, _⟩ rfl (Or.inr ⟨by rfl, rfl⟩) ?_
  try simp only [Act.put, nz1, nz2, nz3]
  refine tkH (v := undef) 4 ⟨some 24, _, _, _, _, _⟩ rfl (Or.inr ⟨by rfl, rfl⟩) ?_
  try simp only [Act.put, nz1, nz2, nz3]
  refine tkH (v := undef) 5 ⟨some 25, _, _, _, _, _⟩ rfl (Or.inr ⟨by rfl, rfl⟩) ?_
  try simp only [Act.put, nz1, nz2, nz3]
  refine tkH (v := ?_) 6 ⟨some 26, _, _, _, _, _⟩ rfl (Or.inl ⟨by rfl, ?_⟩) ?_
  rotate_left
  · intro w hSw; (try dsimp only at hSw); go_simp; try (with_reducible rfl)
  try simp only [Act.put, nz1, nz2, nz3]
  refine tkH (v := ?_) 7 ⟨some 27, _, _, _, _, _⟩ rfl (Or.inl ⟨by rfl, ?_⟩) ?_
  rotate_left
  · intro w hSw; (try dsimp only at hSw); go_simp; try (with_reducible rfl)
  try simp only [Act.put, nz1, nz2, nz3]
  refine tkH (v := undef) 8 ⟨some 28, _, _, _, _, _⟩ rfl (Or.inr ⟨by rfl, rfl⟩) ?_
  try simp only [Act.put, nz1, nz2, nz3]
  refine tkH (v := undef) 9 ⟨some 29, _, _, _, _, _⟩ rfl (Or.inr ⟨by rfl, rfl⟩) ?_
  try simp only [Act.put, nz1, nz2, nz3]
  refine tkH (v := undef) 10 ⟨some 30, _, _, _, _, _⟩ rfl (Or.inr ⟨by rfl, rfl⟩) ?_
  try simp only [Act.put, nz1, nz2, nz3]
  refine tkH (v := undef) 11 ⟨some 31, _, _, _, _, _⟩ rfl (Or.inr ⟨by rfl, rfl⟩) ?_
  try simp only [Act.put, nz1, nz2, nz3]
  refine tkH (v := ?_) 12 ⟨some 32, _, _, _, _, _⟩ rfl (Or.inl ⟨by rfl, ?_⟩) ?_
  rotate_left
  · intro w hSw; (try dsimp only at hSw); go_simp; try (with_reducible rfl)
  try simp only [Act.put, nz1, nz2, nz3]
  refine wpAnyH_done (by kernel_rfl) ?_ _
  go_wp2_with (first
    | (guard_target = wpList _ _ _ (Oper.mk _ (.build 24 _) _ _ _ _ :: _) _ _; refine wpList_build_zero rfl rfl ?_)
    | (guard_target = wpList _ _ _ (Oper.mk _ (.store 24 _ _) _ _ _ _ :: _) _ _; refine wpList_store_idv rfl _ _ rfl W.heap.size (zeroId) rfl rfl zeroId_ok 24 _ (HK6.out.below hbX HK6.out.lt) HO1.out ?_; intro W9 hS9 hz9 hb9 hk9))
  refine bodyPost_ret (results_cell_tmp (p := 6) (q := 7) rfl _ _ W.heap.size 24 (idC (zeroId)) _ rfl hS9 Try.underlying24 rfl (by rw [idC_size zeroId_ok]; exact id_info)) rfl ?_
  exact ⟨by rw [HFIN.out]; rfl, (HBW.out.trans (hbX.mono HBW.out.size)).trans hb9⟩
set_option maxRecDepth 100000 in
set_option maxHeartbeats 8000000 in
theorem sure_nil {W : World} {B C M n : Nat} {kv : Value} {s : RdS} (h : RoundAt W B C M n kv s) (r k : Int) (hr : wfi r) (hk : wfi k) (x : List UInt8) (hs : sureO s.voters s.votes r k = some x ∧ (x == nilId) = true) : Calls Try.prog 78 #[.pointer (some ⟨B, 0, none⟩), .int .i64 r, .int .i64 k] W fun e w' => e = .returned (.tuple #[idv ((sureS s r k).getD zeroId), .bool (sureS s r k).isSome]) ∧ Below W.heap.size W w' := by
  have HR := Lib.hid h
  have HS := Lib.hid hs
  have HID : Hid (IdOk (x)) := Lib.hid (sureO_okR h.cnt hs.1).1
  have HSU : Hid (∀ W', Below W.heap.size W W' → Calls Try.prog 22 #[.pointer (some ⟨C, 0, none⟩), .int .i64 r, .int .i64 k] W' fun e w' => e = .returned (.tuple #[idv (x), .bool true]) ∧ Below W'.heap.size W' w') := Lib.hid fun W' hb => (sure_any (h.below hb).cnt r k hr hk h.ok.voters.2.1).mono fun e w' ⟨he, hb'⟩ => ⟨by rw [he, hs.1]; rfl, hb'⟩
  clear h hs hr hk
  go_enter Try.func78, Try.ntmps78
  go_upto_region 1 with fail
  generalize hW : World.alloc _ _ = W1
  have hb1 : Below W.heap.size W W1 := by rw [← hW]; exact (Below.refl _ _).alloc (Nat.le_refl _) _
  obtain ⟨old, hk1, ho1⟩ : ∃ old, Blk W1 W.heap.size 24 old ∧ old.size = 32 := by rw [← hW]; exact ⟨_, Blk.newAt _ _ rfl rfl, rfl⟩
  have HB1 := Lib.hid hb1
  have HK1 := Lib.hid hk1
  have HO1 := Lib.hid ho1
  have c548 : W1.cell? ⟨B, 548, none⟩ = some (.pointer (some ⟨C, 0, none⟩)) := (HR.out.below hb1).cell (i := 548) (by omega)
  clear hb1 hk1 ho1 hW
  go_upto_region 2 with (first
    | (go_at_call 22; refine (HSU.out _ HB1.out).mono ?_; rintro e W2 ⟨rfl, hb2⟩; have HB2 := Lib.hid hb2; clear hb2)
    | (guard_target = wpList _ _ _ (Oper.mk _ (.store 24 _ _) _ _ _ _ :: _) _ _; refine wpList_store_idv rfl _ _ rfl W2.heap.size (x) rfl rfl HID.out 24 _ (Blk.newAt _ _ rfl rfl) rfl ?_; intro W3 hS3 hz3 hb3 hk3; have HK8 := Lib.hid hS3; have HB3 := Lib.hid (((Below.refl _ W2).alloc (Nat.le_refl _) _).trans hb3); clear hS3 hz3 hb3 hk3))
  have HBW : Hid (Below W.heap.size W W3) := Lib.hid (HB1.out.trans ((HB2.out.trans (HB3.out.mono HB2.out.size)).mono HB1.out.size))
  have HK6 : Hid (Blk W3 W.heap.size 24 old) := Lib.hid ((HK1.out.below HB2.out HK1.out.lt).below HB3.out (HK1.out.below HB2.out HK1.out.lt).lt)
  have HLD : Hid (∀ W', Below W3.heap.size W3 W' → (Instr.loadAt 24 (.pointer (some ⟨W2.heap.size, 0, none⟩))).run Try.prog W' = .ok (idv (x)) W') := Lib.hid fun W' hb => run_loadVar_idv HID.out (HK8.out.below hb HK8.out.lt)
  have HNI : Hid (∀ W', Below W3.heap.size W3 W' → Calls Try.prog 35 #[] W' fun e w' => e = .returned (idv nilId) ∧ Below W'.heap.size W' w') := Lib.hid fun W' _ => nil_any W'
  have HKN : Hid (∀ W', Below W3.heap.size W3 W' → Calls Try.prog 69 #[.pointer (some ⟨B, 0, none⟩), idv (x)] W' fun e w' => e = .returned (.bool (hasI s.known (x))) ∧ Below W'.heap.size W' w') := Lib.hid fun W' hb => knows_any (HR.out.below (HBW.out.trans (hb.mono HBW.out.size))) _ HID.out
  have hbX : Below W3.heap.size W3 W3.drew := (Below.refl _ W3).drew
  have HFIN : Hid (sureS s r k = none) := Lib.hid (by have := HS.out; unfold sureS; rw [this.1]; simp only [this.2, Bool.true_or, if_pos])
  have hx := HS.out.2
  refine wp_region_held_drew (S := fun W' => Below W3.heap.size W3 W') (by kernel_rfl) ?_ (fun hHeld => ?_)
  · exact hbX
  refine tkH (v := ?_) 0 ⟨some 20, _, _, _, _, _⟩ rfl (Or.inl ⟨by rfl, ?_⟩) ?_
  rotate_left
  · intro w hSw; (try dsimp only at hSw); go_simp; try (with_reducible rfl)
  try simp only [Act.put, nz1, nz2, nz3]
  refine tkH (v := ?_) 1 ⟨some 21, _, _, _, _, _⟩ rfl (Or.inl ⟨by rfl, ?_⟩) ?_
  rotate_left
  · intro w hSw; (try dsimp only at hSw); go_simp; try (with_reducible rfl)
  try simp only [Act.put, nz1, nz2, nz3]
  refine tkH (v := ?_) 2 ⟨some 22, _, _, _, _, _⟩ rfl (Or.inl ⟨by rfl, ?_⟩) ?_
  rotate_left
  · intro w hSw; (try dsimp only at hSw); go_simp; try (with_reducible rfl)
  try simp only [Act.put, nz1, nz2, nz3]
  refine tkH (v := (idv x)) 3 ⟨some 23, _, _, _, _, _⟩ rfl (yields_run (by rfl) 24 _ rfl (.pointer (some ⟨W2.heap.size, 0, none⟩)) _ rfl (fun W' hS => HLD.out W' hS)) ?_
  try simp only [Act.put, nz1, nz2, nz3]
  refine wpAnyH_ready (rs := [4]) (by kernel_rfl) (by simp) ?_
  refine (AllReadyH.cons (o := ⟨some 24, _, _, _, _, _⟩) rfl (fun K hK => ?_) AllReadyH.nil)
  (try rw [if_pos (by rfl)])
  go_simp
  refine (HNI.out _ hbX).mono ?_
  rintro e Wn ⟨rfl, hbn⟩
  replace hbX := hbX.trans (hbn.mono hbX.size)
  clear hbn
  try dsimp only
  refine hK.out _ _ (hbX) (fun hHeld => ?_)
  clear hK K
  try simp only [Act.put, nz1, nz2, nz3]
  refine tkH (v := (.bool (x == nilId))) 5 ⟨some 25, _, _, _, _, _⟩ rfl (yields_eqI (by rfl) _ _ rfl x nilId rfl rfl HID.out nilId_ok) ?_
  try simp only [Act.put, nz1, nz2, nz3]
  refine tkH (v := ?_) 6 ⟨some 26, _, _, _, _, _⟩ rfl (Or.inl ⟨by rfl, ?_⟩) ?_
  rotate_left
  · intro w hSw; (try dsimp only at hSw); go_simp; try (with_reducible rfl)
  try simp only [Act.put, nz1, nz2, nz3]
  refine tkH (v := ?_) 7 ⟨some 27, _, _, _, _, _⟩ rfl (Or.inl ⟨by rfl, ?_⟩) ?_
  rotate_left
  · intro w hSw; (try dsimp only at hSw); go_simp; try (with_reducible rfl)
  try simp only [Act.put, nz1, nz2, nz3]
  refine tkH (v := undef) 8 ⟨some 28, _, _, _, _, _⟩ rfl (Or.inr ⟨by rfl, rfl⟩) ?_
  try simp only [Act.put, nz1, nz2, nz3]
  refine tkH (v := undef) 9 ⟨some 29, _, _, _, _, _⟩ rfl (Or.inr ⟨by rfl, rfl⟩) ?_
  try simp only [Act.put, nz1, nz2, nz3]
  refine tkH (v := undef) 10 ⟨some 30, _, _, _, _, _⟩ rfl (Or.inr ⟨by rfl, rfl⟩) ?_
  try simp only [Act.put, nz1, nz2, nz3]
  refine tkH (v := undef) 11 ⟨some 31, _, _, _, _, _⟩ rfl (Or.inr ⟨by rfl, rfl⟩) ?_
  try simp only [Act.put, nz1, nz2, nz3]
  refine tkH (v := ?_) 12 ⟨some 32, _, _, _, _, _⟩ rfl (Or.inl ⟨by rfl, ?_⟩) ?_
  rotate_left
  · intro w hSw; (try dsimp only at hSw); go_simp; try (with_reducible rfl)
  try simp only [Act.put, nz1, nz2, nz3]
  refine wpAnyH_done (by kernel_rfl) ?_ _
  go_wp2_with (first
    | (guard_target = wpList _ _ _ (Oper.mk _ (.build 24 _) _ _ _ _ :: _) _ _; refine wpList_build_zero rfl rfl ?_)
    | (guard_target = wpList _ _ _ (Oper.mk _ (.store 24 _ _) _ _ _ _ :: _) _ _; refine wpList_store_idv rfl _ _ rfl W.heap.size (zeroId) rfl rfl zeroId_ok 24 _ (HK6.out.below hbX HK6.out.lt) HO1.out ?_; intro W9 hS9 hz9 hb9 hk9))
  refine bodyPost_ret (results_cell_tmp (p := 6) (q := 7) rfl _ _ W.heap.size 24 (idC (zeroId)) _ rfl hS9 Try.underlying24 rfl (by rw [idC_size zeroId_ok]; exact id_info)) rfl ?_
  exact ⟨by rw [HFIN.out]; rfl, (HBW.out.trans (hbX.mono HBW.out.size)).trans hb9⟩
set_option maxRecDepth 100000 in
set_option maxHeartbeats 8000000 in
theorem sure_not {W : World} {B C M n : Nat} {kv : Value} {s : RdS} (h : RoundAt W B C M n kv s) (r k : Int) (hr : wfi r) (hk : wfi k) (x : List UInt8) (hs : sureO s.voters s.votes r k = some x ∧ (x == nilId) = false ∧ hasI s.known x = false) : Calls Try.prog 78 #[.pointer (some ⟨B, 0, none⟩), .int .i64 r, .int .i64 k] W fun e w' => e = .returned (.tuple #[idv ((sureS s r k).getD zeroId), .bool (sureS s r k).isSome]) ∧ Below W.heap.size W w' := by
  have HR := Lib.hid h
  have HS := Lib.hid hs
  have HID : Hid (IdOk (x)) := Lib.hid (sureO_okR h.cnt hs.1).1
  have HSU : Hid (∀ W', Below W.heap.size W W' → Calls Try.prog 22 #[.pointer (some ⟨C, 0, none⟩), .int .i64 r, .int .i64 k] W' fun e w' => e = .returned (.tuple #[idv (x), .bool true]) ∧ Below W'.heap.size W' w') := Lib.hid fun W' hb => (sure_any (h.below hb).cnt r k hr hk h.ok.voters.2.1).mono fun e w' ⟨he, hb'⟩ => ⟨by rw [he, hs.1]; rfl, hb'⟩
  clear h hs hr hk
  go_enter Try.func78, Try.ntmps78
  go_upto_region 1 with fail
  generalize hW : World.alloc _ _ = W1
  have hb1 : Below W.heap.size W W1 := by rw [← hW]; exact (Below.refl _ _).alloc (Nat.le_refl _) _
  obtain ⟨old, hk1, ho1⟩ : ∃ old, Blk W1 W.heap.size 24 old ∧ old.size = 32 := by rw [← hW]; exact ⟨_, Blk.newAt _ _ rfl rfl, rfl⟩
  have HB1 := Lib.hid hb1
  have HK1 := Lib.hid hk1
  have HO1 := Lib.hid ho1
  have c548 : W1.cell? ⟨B, 548, none⟩ = some (.pointer (some ⟨C, 0, none⟩)) := (HR.out.below hb1).cell (i := 548) (by omega)
  clear hb1 hk1 ho1 hW
  go_upto_region 2 with (first
    | (go_at_call 22; refine (HSU.out _ HB1.out).mono ?_; rintro e W2 ⟨rfl, hb2⟩; have HB2 := Lib.hid hb2; clear hb2)
    | (guard_target = wpList _ _ _ (Oper.mk _ (.store 24 _ _) _ _ _ _ :: _) _ _; refine wpList_store_idv rfl _ _ rfl W2.heap.size (x) rfl rfl HID.out 24 _ (Blk.newAt _ _ rfl rfl) rfl ?_; intro W3 hS3 hz3 hb3 hk3; have HK8 := Lib.hid hS3; have HB3 := Lib.hid (((Below.refl _ W2).alloc (Nat.le_refl _) _).trans hb3); clear hS3 hz3 hb3 hk3))
  have HBW : Hid (Below W.heap.size W W3) := Lib.hid (HB1.out.trans ((HB2.out.trans (HB3.out.mono HB2.out.size)).mono HB1.out.size))
  have HK6 : Hid (Blk W3 W.heap.size 24 old) := Lib.hid ((HK1.out.below HB2.out HK1.out.lt).below HB3.out (HK1.out.below HB2.out HK1.out.lt).lt)
  have HLD : Hid (∀ W', Below W3.heap.size W3 W' → (Instr.loadAt 24 (.pointer (some ⟨W2.heap.size, 0, none⟩))).run Try.prog W' = .ok (idv (x)) W') := Lib.hid fun W' hb => run_loadVar_idv HID.out (HK8.out.below hb HK8.out.lt)
  have HNI : Hid (∀ W', Below W3.heap.size W3 W' → Calls Try.prog 35 #[] W' fun e w' => e = .returned (idv nilId) ∧ Below W'.heap.size W' w') := Lib.hid fun W' _ => nil_any W'
  have HKN : Hid (∀ W', Below W3.heap.size W3 W' → Calls Try.prog 69 #[.pointer (some ⟨B, 0, none⟩), idv (x)] W' fun e w' => e = .returned (.bool (hasI s.known (x))) ∧ Below W'.heap.size W' w') := Lib.hid fun W' hb => knows_any (HR.out.below (HBW.out.trans (hb.mono HBW.out.size))) _ HID.out
  have hbX : Below W3.heap.size W3 W3.drew := (Below.refl _ W3).drew
  have HFIN : Hid (sureS s r k = none) := Lib.hid (by have := HS.out; unfold sureS; rw [this.1]; simp only [this.2.1, this.2.2, Bool.not_false, Bool.or_true, if_pos])
  have hx := HS.out.2.1
  have hy := HS.out.2.2
  refine wp_region_held_drew (S := fun W' => Below W3.heap.size W3 W') (by kernel_rfl) ?_ (fun hHeld => ?_)
  · exact hbX
  refine tkH (v := ?_) 0 ⟨some 20, _, _, _, _, _⟩ rfl (Or.inl ⟨by rfl, ?_⟩) ?_
  rotate_left
  · intro w hSw; (try dsimp only at hSw); go_simp; try (with_reducible rfl)
  try simp only [Act.put, nz1, nz2, nz3]
  refine tkH (v := ?_) 1 ⟨some 21, _, _, _, _, _⟩ rfl (Or.inl ⟨by rfl, ?_⟩) ?_
  rotate_left
  · intro w hSw; (try dsimp only at hSw); go_simp; try (with_reducible rfl)
  try simp only [Act.put, nz1, nz2, nz3]
  refine tkH (v := ?_) 2 ⟨some 22, _, _, _, _, _⟩ rfl (Or.inl ⟨by rfl, ?_⟩) ?_
  rotate_left
  · intro w hSw; (try dsimp only at hSw); go_simp; try (with_reducible rfl)
  try simp only [Act.put, nz1, nz2, nz3]
  refine tkH (v := (idv x)) 3 ⟨some 23, _, _, _, _, _⟩ rfl (yields_run (by rfl) 24 _ rfl (.pointer (some ⟨W2.heap.size, 0, none⟩)) _ rfl (fun W' hS => HLD.out W' hS)) ?_
  try simp only [Act.put, nz1, nz2, nz3]
  refine wpAnyH_ready (rs := [4]) (by kernel_rfl) (by simp) ?_
  refine (AllReadyH.cons (o := ⟨some 24, _, _, _, _, _⟩) rfl (fun K hK => ?_) AllReadyH.nil)
  (try rw [if_pos (by rfl)])
  go_simp
  refine (HNI.out _ hbX).mono ?_
  rintro e Wn ⟨rfl, hbn⟩
  replace hbX := hbX.trans (hbn.mono hbX.size)
  clear hbn
  try dsimp only
  refine hK.out _ _ (hbX) (fun hHeld => ?_)
  clear hK K
  try simp only [Act.put, nz1, nz2, nz3]
  refine tkH (v := (.bool (x == nilId))) 5 ⟨some 25, _, _, _, _, _⟩ rfl (yields_eqI (by rfl) _ _ rfl x nilId rfl rfl HID.out nilId_ok) ?_
  try simp only [Act.put, nz1, nz2, nz3]
  refine tkH (v := ?_) 6 ⟨some 26, _, _, _, _, _⟩ rfl (Or.inl ⟨by rfl, ?_⟩) ?_
  rotate_left
  · intro w hSw; (try dsimp only at hSw); go_simp; try (with_reducible rfl)
  try simp only [Act.put, nz1, nz2, nz3]
  refine tkH (v := ?_) 7 ⟨some 27, _, _, _, _, _⟩ rfl (Or.inl ⟨by rfl, ?_⟩) ?_
  rotate_left
  · intro w hSw; (try dsimp only at hSw); go_simp; try (with_reducible rfl)
  try simp only [Act.put, nz1, nz2, nz3]
  refine tkH (v := ?_) 8 ⟨some 28, _, _, _, _, _⟩ rfl (Or.inl ⟨by rfl, ?_⟩) ?_
  rotate_left
  · intro w hSw; (try dsimp only at hSw); go_simp; try (with_reducible rfl)
  try simp only [Act.put, nz1, nz2, nz3]
  refine tkH (v := (idv x)) 9 ⟨some 29, _, _, _, _, _⟩ rfl (yields_run (by rfl) 24 _ rfl (.pointer (some ⟨W2.heap.size, 0, none⟩)) _ rfl (fun W' hS => HLD.out W' hS)) ?_
  try simp only [Act.put, nz1, nz2, nz3]
  refine wpAnyH_ready (rs := [10]) (by kernel_rfl) (by simp) ?_
  refine (AllReadyH.cons (o := ⟨some 30, _, _, _, _, _⟩) rfl (fun K hK => ?_) AllReadyH.nil)
  (try rw [if_pos (by rfl)])
  go_simp
  refine (HKN.out _ hbX).mono ?_
  rintro e Wn ⟨rfl, hbn⟩
  replace hbX := hbX.trans (hbn.mono hbX.size)
  clear hbn
  try dsimp only
  refine hK.out _ _ (hbX) (fun hHeld => ?_)
  clear hK K
  try simp only [Act.put, nz1, nz2, nz3]
  refine tkH (v := ?_) 11 ⟨some 31, _, _, _, _, _⟩ rfl (Or.inl ⟨by rfl, ?_⟩) ?_
  rotate_left
  · intro w hSw; (try dsimp only at hSw); go_simp; try (with_reducible rfl)
  try simp only [Act.put, nz1, nz2, nz3]
  refine tkH (v := ?_) 12 ⟨some 32, _, _, _, _, _⟩ rfl (Or.inl ⟨by rfl, ?_⟩) ?_
  rotate_left
  · intro w hSw; (try dsimp only at hSw); go_simp; try (with_reducible rfl)
  try simp only [Act.put, nz1, nz2, nz3]
  refine wpAnyH_done (by kernel_rfl) ?_ _
  go_wp2_with (first
    | (guard_target = wpList _ _ _ (Oper.mk _ (.build 24 _) _ _ _ _ :: _) _ _; refine wpList_build_zero rfl rfl ?_)
    | (guard_target = wpList _ _ _ (Oper.mk _ (.store 24 _ _) _ _ _ _ :: _) _ _; refine wpList_store_idv rfl _ _ rfl W.heap.size (zeroId) rfl rfl zeroId_ok 24 _ (HK6.out.below hbX HK6.out.lt) HO1.out ?_; intro W9 hS9 hz9 hb9 hk9))
  refine bodyPost_ret (results_cell_tmp (p := 6) (q := 7) rfl _ _ W.heap.size 24 (idC (zeroId)) _ rfl hS9 Try.underlying24 rfl (by rw [idC_size zeroId_ok]; exact id_info)) rfl ?_
  exact ⟨by rw [HFIN.out]; rfl, (HBW.out.trans (hbX.mono HBW.out.size)).trans hb9⟩
set_option maxRecDepth 100000 in
set_option maxHeartbeats 8000000 in
theorem sure_yes {W : World} {B C M n : Nat} {kv : Value} {s : RdS} (h : RoundAt W B C M n kv s) (r k : Int) (hr : wfi r) (hk : wfi k) (x : List UInt8) (hs : sureO s.voters s.votes r k = some x ∧ (x == nilId) = false ∧ hasI s.known x = true) : Calls Try.prog 78 #[.pointer (some ⟨B, 0, none⟩), .int .i64 r, .int .i64 k] W fun e w' => e = .returned (.tuple #[idv ((sureS s r k).getD zeroId), .bool (sureS s r k).isSome]) ∧ Below W.heap.size W w' := by
  have HR := Lib.hid h
  have HS := Lib.hid hs
  have HID : Hid (IdOk (x)) := Lib.hid (sureO_okR h.cnt hs.1).1
  have HSU : Hid (∀ W', Below W.heap.size W W' → Calls Try.prog 22 #[.pointer (some ⟨C, 0, none⟩), .int .i64 r, .int .i64 k] W' fun e w' => e = .returned (.tuple #[idv (x), .bool true]) ∧ Below W'.heap.size W' w') := Lib.hid fun W' hb => (sure_any (h.below hb).cnt r k hr hk h.ok.voters.2.1).mono fun e w' ⟨he, hb'⟩ => ⟨by rw [he, hs.1]; rfl, hb'⟩
  clear h hs hr hk
  go_enter Try.func78, Try.ntmps78
  go_upto_region 1 with fail
  generalize hW : World.alloc _ _ = W1
  have hb1 : Below W.heap.size W W1 := by rw [← hW]; exact (Below.refl _ _).alloc (Nat.le_refl _) _
  obtain ⟨old, hk1, ho1⟩ : ∃ old, Blk W1 W.heap.size 24 old ∧ old.size = 32 := by rw [← hW]; exact ⟨_, Blk.newAt _ _ rfl rfl, rfl⟩
  have HB1 := Lib.hid hb1
  have HK1 := Lib.hid hk1
  have HO1 := Lib.hid ho1
  have c548 : W1.cell? ⟨B, 548, none⟩ = some (.pointer (some ⟨C, 0, none⟩)) := (HR.out.below hb1).cell (i := 548) (by omega)
  clear hb1 hk1 ho1 hW
  go_upto_region 2 with (first
    | (go_at_call 22; refine (HSU.out _ HB1.out).mono ?_; rintro e W2 ⟨rfl, hb2⟩; have HB2 := Lib.hid hb2; clear hb2)
    | (guard_target = wpList _ _ _ (Oper.mk _ (.store 24 _ _) _ _ _ _ :: _) _ _; refine wpList_store_idv rfl _ _ rfl W2.heap.size (x) rfl rfl HID.out 24 _ (Blk.newAt _ _ rfl rfl) rfl ?_; intro W3 hS3 hz3 hb3 hk3; have HK8 := Lib.hid hS3; have HB3 := Lib.hid (((Below.refl _ W2).alloc (Nat.le_refl _) _).trans hb3); clear hS3 hz3 hb3 hk3))
  have HBW : Hid (Below W.heap.size W W3) := Lib.hid (HB1.out.trans ((HB2.out.trans (HB3.out.mono HB2.out.size)).mono HB1.out.size))
  have HK6 : Hid (Blk W3 W.heap.size 24 old) := Lib.hid ((HK1.out.below HB2.out HK1.out.lt).below HB3.out (HK1.out.below HB2.out HK1.out.lt).lt)
  have HLD : Hid (∀ W', Below W3.heap.size W3 W' → (Instr.loadAt 24 (.pointer (some ⟨W2.heap.size, 0, none⟩))).run Try.prog W' = .ok (idv (x)) W') := Lib.hid fun W' hb => run_loadVar_idv HID.out (HK8.out.below hb HK8.out.lt)
  have HNI : Hid (∀ W', Below W3.heap.size W3 W' → Calls Try.prog 35 #[] W' fun e w' => e = .returned (idv nilId) ∧ Below W'.heap.size W' w') := Lib.hid fun W' _ => nil_any W'
  have HKN : Hid (∀ W', Below W3.heap.size W3 W' → Calls Try.prog 69 #[.pointer (some ⟨B, 0, none⟩), idv (x)] W' fun e w' => e = .returned (.bool (hasI s.known (x))) ∧ Below W'.heap.size W' w') := Lib.hid fun W' hb => knows_any (HR.out.below (HBW.out.trans (hb.mono HBW.out.size))) _ HID.out
  have hbX : Below W3.heap.size W3 W3.drew := (Below.refl _ W3).drew
  have HFIN : Hid (sureS s r k = some x) := Lib.hid (by have := HS.out; unfold sureS; rw [this.1]; simp [this.2.1, this.2.2])
  have hx := HS.out.2.1
  have hy := HS.out.2.2
  refine wp_region_held_drew (S := fun W' => Below W3.heap.size W3 W') (by kernel_rfl) ?_ (fun hHeld => ?_)
  · exact hbX
  refine tkH (v := ?_) 0 ⟨some 20, _, _, _, _, _⟩ rfl (Or.inl ⟨by rfl, ?_⟩) ?_
  rotate_left
  · intro w hSw; (try dsimp only at hSw); go_simp; try (with_reducible rfl)
  try simp only [Act.put, nz1, nz2, nz3]
  refine tkH (v := ?_) 1 ⟨some 21, _, _, _, _, _⟩ rfl (Or.inl ⟨by rfl, ?_⟩) ?_
  rotate_left
  · intro w hSw; (try dsimp only at hSw); go_simp; try (with_reducible rfl)
  try simp only [Act.put, nz1, nz2, nz3]
  refine tkH (v := ?_) 2 ⟨some 22, _, _, _, _, _⟩ rfl (Or.inl ⟨by rfl, ?_⟩) ?_
  rotate_left
  · intro w hSw; (try dsimp only at hSw); go_simp; try (with_reducible rfl)
  try simp only [Act.put, nz1, nz2, nz3]
  refine tkH (v := (idv x)) 3 ⟨some 23, _, _, _, _, _⟩ rfl (yields_run (by rfl) 24 _ rfl (.pointer (some ⟨W2.heap.size, 0, none⟩)) _ rfl (fun W' hS => HLD.out W' hS)) ?_
  try simp only [Act.put, nz1, nz2, nz3]
  refine wpAnyH_ready (rs := [4]) (by kernel_rfl) (by simp) ?_
  refine (AllReadyH.cons (o := ⟨some 24, _, _, _, _, _⟩) rfl (fun K hK => ?_) AllReadyH.nil)
  (try rw [if_pos (by rfl)])
  go_simp
  refine (HNI.out _ hbX).mono ?_
  rintro e Wn ⟨rfl, hbn⟩
  replace hbX := hbX.trans (hbn.mono hbX.size)
  clear hbn
  try dsimp only
  refine hK.out _ _ (hbX) (fun hHeld => ?_)
  clear hK K
  try simp only [Act.put, nz1, nz2, nz3]
  refine tkH (v := (.bool (x == nilId))) 5 ⟨some 25, _, _, _, _, _⟩ rfl (yields_eqI (by rfl) _ _ rfl x nilId rfl rfl HID.out nilId_ok) ?_
  try simp only [Act.put, nz1, nz2, nz3]
  refine tkH (v := ?_) 6 ⟨some 26, _, _, _, _, _⟩ rfl (Or.inl ⟨by rfl, ?_⟩) ?_
  rotate_left
  · intro w hSw; (try dsimp only at hSw); go_simp; try (with_reducible rfl)
  try simp only [Act.put, nz1, nz2, nz3]
  refine tkH (v := ?_) 7 ⟨some 27, _, _, _, _, _⟩ rfl (Or.inl ⟨by rfl, ?_⟩) ?_
  rotate_left
  · intro w hSw; (try dsimp only at hSw); go_simp; try (with_reducible rfl)
  try simp only [Act.put, nz1, nz2, nz3]
  refine tkH (v := ?_) 8 ⟨some 28, _, _, _, _, _⟩ rfl (Or.inl ⟨by rfl, ?_⟩) ?_
  rotate_left
  · intro w hSw; (try dsimp only at hSw); go_simp; try (with_reducible rfl)
  try simp only [Act.put, nz1, nz2, nz3]
  refine tkH (v := (idv x)) 9 ⟨some 29, _, _, _, _, _⟩ rfl (yields_run (by rfl) 24 _ rfl (.pointer (some ⟨W2.heap.size, 0, none⟩)) _ rfl (fun W' hS => HLD.out W' hS)) ?_
  try simp only [Act.put, nz1, nz2, nz3]
  refine wpAnyH_ready (rs := [10]) (by kernel_rfl) (by simp) ?_
  refine (AllReadyH.cons (o := ⟨some 30, _, _, _, _, _⟩) rfl (fun K hK => ?_) AllReadyH.nil)
  (try rw [if_pos (by rfl)])
  go_simp
  refine (HKN.out _ hbX).mono ?_
  rintro e Wn ⟨rfl, hbn⟩
  replace hbX := hbX.trans (hbn.mono hbX.size)
  clear hbn
  try dsimp only
  refine hK.out _ _ (hbX) (fun hHeld => ?_)
  clear hK K
  try simp only [Act.put, nz1, nz2, nz3]
  refine tkH (v := ?_) 11 ⟨some 31, _, _, _, _, _⟩ rfl (Or.inl ⟨by rfl, ?_⟩) ?_
  rotate_left
  · intro w hSw; (try dsimp only at hSw); go_simp; try (with_reducible rfl)
  try simp only [Act.put, nz1, nz2, nz3]
  refine tkH (v := ?_) 12 ⟨some 32, _, _, _, _, _⟩ rfl (Or.inl ⟨by rfl, ?_⟩) ?_
  rotate_left
  · intro w hSw; (try dsimp only at hSw); go_simp; try (with_reducible rfl)
  try simp only [Act.put, nz1, nz2, nz3]
  refine wpAnyH_done (by kernel_rfl) ?_ _
  go_wp2_with (first
    | (guard_target = wpList _ _ _ (Oper.mk _ (.load 24 _) _ _ _ _ :: _) _ _; refine wpList_load_idv rfl _ rfl W2.heap.size x rfl HID.out 24 (HK8.out.below hbX HK8.out.lt) ?_)
    | (guard_target = wpList _ _ _ (Oper.mk _ (.store 24 _ _) _ _ _ _ :: _) _ _; refine wpList_store_idv rfl _ _ rfl W.heap.size (x) rfl rfl HID.out 24 _ (HK6.out.below hbX HK6.out.lt) HO1.out ?_; intro W9 hS9 hz9 hb9 hk9))
  refine bodyPost_ret (results_cell_tmp (p := 6) (q := 7) rfl _ _ W.heap.size 24 (idC (x)) _ rfl hS9 Try.underlying24 rfl (by rw [idC_size HID.out]; exact id_info)) rfl ?_
  exact ⟨by rw [HFIN.out]; rfl, (HBW.out.trans (hbX.mono HBW.out.size)).trans hb9⟩
theorem sureR_any {W : World} {B C M n : Nat} {kv : Value} {s : RdS} (h : RoundAt W B C M n kv s) (r k : Int) (hr : wfi r) (hk : wfi k) : Calls Try.prog 78 #[.pointer (some ⟨B, 0, none⟩), .int .i64 r, .int .i64 k] W fun e w' => e = .returned (.tuple #[idv ((sureS s r k).getD zeroId), .bool (sureS s r k).isSome]) ∧ Below W.heap.size W w' := by
  cases hs : sureO s.voters s.votes r k with
  | none => exact sure_none h r k hr hk hs
  | some x =>
    cases hx : x == nilId with
    | true => exact sure_nil h r k hr hk x ⟨hs, hx⟩
    | false =>
      cases hy : hasI s.known x with
      | false => exact sure_not h r k hr hk x ⟨hs, hx, hy⟩
      | true => exact sure_yes h r k hr hk x ⟨hs, hx, hy⟩
end Go.Proofs.Ytbgojlcciealiaa
