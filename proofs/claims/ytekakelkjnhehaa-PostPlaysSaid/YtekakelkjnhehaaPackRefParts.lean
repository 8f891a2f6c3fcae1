/-
  The reference's parts: for every message that can be written, in whatever memory: nine strings in new memory, the fields' bytes.
-/
import Derived.Test.YtekakelkjnhehaaPackRefCheck
import Derived.Test.YtekakelkjnhehaaPackRefStr
import Derived.Test.YtekakelkjnhehaaPackID
import Derived.Test.YtekakelkjnhehaaPackList
import Derived.Deep.RegionHeld3
import Derived.Deep.RegionWith
namespace Go.Proofs.Ytekakelkjnhehaa
open Go Go.RowKit PackMath

theorem Kp.alloc {W w : World} (h : Below W.heap.size W w) (o : Obj) : Below W.heap.size W (w.alloc o) := Below.alloc h h.size o
theorem Kp.call {W w w' : World} (h : Below W.heap.size W w) (h2 : Below w.heap.size w w') : Below W.heap.size W w' := h.trans (h2.mono h.size)
section
variable {P : Program}
theorem yieldsIf_load_at {ops : Array Oper} {S : World → Prop} {op : Oper} {a : Act} (hw : Region.wanted op (yielded ops a.tmps) = true) (ty : TypeId) (x : Operand) (ho : op.op = .load ty x)
    (ad : Addr) (hx : a.eval x = .pointer (some ad)) (N : Nat) (f : Nat → Value) (e : TypeId) (hS : ∀ w, S w → ∀ i, i < N → w.cell? (ad.add i) = some (f i))
    (hu : P.underlying ty = some (.array N e)) (hi : (P.info? ty).map (·.size) = some N) : YieldsIf P ops S op (.agg (arr N f)) a :=
  .inl ⟨hw, fun w hw' => by
    have hl := run_loadAt_cells (P := P) ty ad N f e w (hS w hw') hu hi
    unfold execOp
    simp only [ho, hx, Sem.run_bind, hl, Sem.run_pure, Result.andThen_ok]⟩
end
theorem neq_id (f g : Nat → UInt8) (w : World) : (binOp .neq 31 (.agg (arr 32 fun i => bv (f i))) (.agg (arr 32 fun i => bv (g i)))).run Try.prog w = .ok (.bool (!(id32 f == id32 g))) w := by
  rw [arr_id32, arr_id32, run_neq_struct, run_equalIn_bytes w 9998 31 5 32 Try.underlying31 Try.underlying5 (size_one (by kernel_rfl)) _ _ (by simp [id32]) (by simp [id32])]
  rfl
theorem ref_num (n : Int) (h : 0 ≤ n ∧ n ≤ 1099511627776) (w : World) : Calls Try.prog 31 #[.int .i64 n] w fun e w' => e = .returned (.string ⟨(digits n.toNat).toArray⟩) ∧ Below w.heap.size w w' := by
  obtain ⟨k, rfl⟩ := Int.eq_ofNat_of_zero_le h.1
  exact refDigits_any k (by omega) w
/-- The nine strings. -/
def strF (s0 s1 s2 s3 s4 a c b l : List UInt8) (k : Nat) : Value := .string ⟨([s0, s1, s2, s3, s4, a, c, b, l].getD k []).toArray⟩
theorem strF_set5 (s0 s1 s2 s3 s4 a c b l a' : List UInt8) : (arr 9 (strF s0 s1 s2 s3 s4 a c b l)).setIfInBounds 5 (.string ⟨a'.toArray⟩) = arr 9 (strF s0 s1 s2 s3 s4 a' c b l) := by
  rw [arr_list, arr_list]; rfl
theorem strF_set7 (s0 s1 s2 s3 s4 a c b l b' : List UInt8) : (arr 9 (strF s0 s1 s2 s3 s4 a c b l)).setIfInBounds 7 (.string ⟨b'.toArray⟩) = arr 9 (strF s0 s1 s2 s3 s4 a c b' l) := by
  rw [arr_list, arr_list]; rfl
theorem strF_set8 (s0 s1 s2 s3 s4 a c b l l' : List UInt8) : (arr 9 (strF s0 s1 s2 s3 s4 a c b l)).setIfInBounds 8 (.string ⟨l'.toArray⟩) = arr 9 (strF s0 s1 s2 s3 s4 a c b l') := by
  rw [arr_list, arr_list]; rfl

set_option maxRecDepth 100000 in
set_option maxHeartbeats 4000000 in
theorem refParts_any (r : Raw) (hf : r.Fit) (d i l : Value) (w : World) (hr : RdR w (fun b => b < w.heap.size) r d i l) :
    Calls Try.prog 21 #[.agg (msgA r d i l)] w fun e w' => ∃ g, e = .returned (.slice (some ⟨g, 0, none⟩) 9 9) ∧ w.heap.size ≤ g ∧ Blk w' g 9 (arr 9 fun k => .string ⟨((parts r.m).getD k []).toArray⟩) ∧ Below w.heap.size w w' := by
  have hb1 : Below w.heap.size w (w.alloc (.cells (msgA r d i l) 36)) := (Below.refl _ _).alloc (Nat.le_refl _) _
  obtain ⟨hd, ⟨Ai, ci, rfl, hni, hri⟩, ⟨Al, cl, rfl, hnl, hrl⟩⟩ := hr
  obtain ⟨Ad, cd, rfl, _, hnd, _⟩ := id hd
  have hrd : RdB w (fun b => b < w.heap.size) (.slice Ad r.data.length cd) r.data := hd
  have b0 : Blk (w.alloc (.cells (msgA r (.slice Ad r.data.length cd) (.slice Ai r.ids.length ci) (.slice Al r.list.length cl)) 36)) w.heap.size 36 (msgA r (.slice Ad r.data.length cd) (.slice Ai r.ids.length ci) (.slice Al r.list.length cl)) := Blk.new _ _ _
  have hcells := msg_cells b0
  have hidc : ∀ i, i < 32 → (w.alloc (.cells (msgA r (.slice Ad r.data.length cd) (.slice Ai r.ids.length ci) (.slice Al r.list.length cl)) 36)).cell? ((⟨w.heap.size, 6, none⟩ : Addr).add i) = some (bv (r.id i)) := fun j hj => by
    have ea : (⟨w.heap.size, 6, none⟩ : Addr).add j = ⟨w.heap.size, 6 + j, none⟩ := by unfold Addr.add; split <;> simp_all
    rw [ea, b0.cell, msgA, arr_get, if_pos (by omega)]
    rw [show 6 + j = j + 6 by omega]
    show some (if j + 6 < 38 then bv (r.id (j + 6 - 6)) else _) = _
    rw [if_pos (by omega), Nat.add_sub_cancel]
  have hparts : parts r.m = [digits r.who.toNat, digits r.height.toNat, digits r.round.toNat, digits r.valid.toNat, digits r.num.toNat, idPart (id32 r.id), r.data, (r.ids.map id32).flatten, (r.list.map run).flatten] := rfl
  have D1 := Lib.hid (ref_num _ hf.who)
  have D2 := Lib.hid (ref_num _ hf.height)
  have D3 := Lib.hid (ref_num _ hf.round)
  have D4 := Lib.hid (ref_num _ hf.valid)
  have D5 := Lib.hid (ref_num _ hf.num)
  obtain ⟨s0, e0⟩ : ∃ s, digits r.who.toNat = s := ⟨_, rfl⟩
  obtain ⟨s1, e1⟩ : ∃ s, digits r.height.toNat = s := ⟨_, rfl⟩
  obtain ⟨s2, e2⟩ : ∃ s, digits r.round.toNat = s := ⟨_, rfl⟩
  obtain ⟨s3, e3⟩ : ∃ s, digits r.valid.toNat = s := ⟨_, rfl⟩
  obtain ⟨s4, e4⟩ : ∃ s, digits r.num.toNat = s := ⟨_, rfl⟩
  rw [e0] at D1
  rw [e1] at D2
  rw [e2] at D3
  rw [e3] at D4
  rw [e4] at D5
  rw [e0, e1, e2, e3, e4] at hparts
  have HPARTS : Hid (∀ k, strF s0 s1 s2 s3 s4 (idPart (id32 r.id)) r.data (r.ids.map id32).flatten (r.list.map run).flatten k = .string ⟨((parts r.m).getD k []).toArray⟩) := Lib.hid fun k => by rw [hparts]; rfl
  obtain ⟨M, hM⟩ : ∃ M, msgA r (.slice Ad r.data.length cd) (.slice Ai r.ids.length ci) (.slice Al r.list.length cl) = M := ⟨_, rfl⟩
  rw [hM] at b0 hcells hidc hb1 ⊢
  obtain ⟨nd, hndd⟩ : ∃ nd, r.data.length = nd := ⟨_, rfl⟩
  obtain ⟨ni, hnid⟩ : ∃ ni, r.ids.length = ni := ⟨_, rfl⟩
  obtain ⟨nl, hnld⟩ : ∃ nl, r.list.length = nl := ⟨_, rfl⟩
  rw [hndd] at hcells hrd
  rw [hnid] at hcells
  rw [hnld] at hcells
  have hni64 : ni ≤ 64 := by rw [← hnid]; exact hf.ids
  have hnl64 : nl ≤ 64 := by rw [← hnld]; exact hf.list
  have hsz := hf.size
  obtain ⟨c0, c1, c2, c3, c4, c5, c38, c39, c40⟩ := hcells
  have hwl : w.heap.size < (w.alloc (.cells M 36)).heap.size := by simp
  have CELL : Hid (∀ W', Below (w.alloc (.cells M 36)).heap.size (w.alloc (.cells M 36)) W' → ∀ j v, (w.alloc (.cells M 36)).cell? ⟨w.heap.size, j, none⟩ = some v → W'.cell? ⟨w.heap.size, j, none⟩ = some v) := Lib.hid fun W' hb j v h => (hb.cell (p := ⟨w.heap.size, j, none⟩) hwl).trans h
  have ALL : Hid (∀ W', Below (w.alloc (.cells M 36)).heap.size (w.alloc (.cells M 36)) W' → RdB W' (fun b => b < w.heap.size) (.slice Ad nd cd) r.data ∧ W'.cell? ⟨w.heap.size, 1, none⟩ = some (.int .i64 r.who) ∧ W'.cell? ⟨w.heap.size, 2, none⟩ = some (.int .i64 r.height) ∧ W'.cell? ⟨w.heap.size, 3, none⟩ = some (.int .i64 r.round) ∧ W'.cell? ⟨w.heap.size, 4, none⟩ = some (.int .i64 r.valid) ∧ W'.cell? ⟨w.heap.size, 5, none⟩ = some (.int .i64 r.num) ∧ W'.cell? ⟨w.heap.size, 38, none⟩ = some (.slice Ad nd cd)) := Lib.hid fun W' hb =>
    ⟨hrd.kept fun a x ha h => ((hb1.trans (hb.mono (by simp))).cell (p := a) ha).trans h, CELL.out W' hb _ _ c1, CELL.out W' hb _ _ c2, CELL.out W' hb _ _ c3, CELL.out W' hb _ _ c4, CELL.out W' hb _ _ c5, CELL.out W' hb _ _ c38⟩
  have C39 := Lib.hid c39
  have C40 := Lib.hid c40
  have HIDC := Lib.hid hidc
  have HRI := Lib.hid hri
  have HRL := Lib.hid hrl
  have HB := Lib.hid hb1
  have HN := Lib.hid (And.intro hndd (And.intro hnid hnld))
  have q : Below (w.alloc (.cells M 36)).heap.size (w.alloc (.cells M 36)) (w.alloc (.cells M 36)).drew := (Below.refl _ _).drew
  clear hd hrd hri hrl b0 hM e0 e1 e2 e3 e4 hparts hndd hnid hnld c0 c1 c2 c3 c4 c5 c38 c39 c40 hidc hf hb1 hni hnl hnd hwl
  go_enter Try.func21, Try.ntmps21
  go_wp2
  refine wp_region_held_drew (S := fun w' => RdB w' (fun b => b < w.heap.size) (.slice Ad nd cd) r.data ∧ w'.cell? ⟨w.heap.size, 1, none⟩ = some (.int .i64 r.who) ∧ w'.cell? ⟨w.heap.size, 2, none⟩ = some (.int .i64 r.height) ∧ w'.cell? ⟨w.heap.size, 3, none⟩ = some (.int .i64 r.round) ∧ w'.cell? ⟨w.heap.size, 4, none⟩ = some (.int .i64 r.valid) ∧ w'.cell? ⟨w.heap.size, 5, none⟩ = some (.int .i64 r.num) ∧ w'.cell? ⟨w.heap.size, 38, none⟩ = some (.slice Ad nd cd)) (by kernel_rfl) ?_ (fun hHeld => ?_)
  · exact ALL.out _ q
  refine wpAnyH_take (i := 0) (oi := ⟨some 6, _, _, _, _, _⟩) (v := ?_) rfl (by kernel_rfl) (by kernel_rfl) (by kernel_rfl) (fun _ _ _ h => h) (Or.inl ⟨by rfl, ?_⟩) (by assumption) ?_
  rotate_left
  · intro w hSw; (try dsimp only at hSw); go_simp; try (with_reducible rfl)
  rotate_left 0
  try simp only [Act.put, List.setIfInBounds_toArray, List.set_cons_zero, List.set_cons_succ]
  refine wpAnyH_take (i := 1) (oi := ⟨some 7, _, _, _, _, _⟩) (v := ?_) rfl (by kernel_rfl) (by kernel_rfl) (by kernel_rfl) (fun _ _ _ h => h) (Or.inl ⟨by rfl, ?_⟩) (by assumption) ?_
  rotate_left
  · intro w hSw; (try dsimp only at hSw); go_simp; try (with_reducible rfl)
  rotate_left 0
  try simp only [Act.put, List.setIfInBounds_toArray, List.set_cons_zero, List.set_cons_succ]
  refine wpAnyH_take (i := 3) (oi := ⟨some 9, _, _, _, _, _⟩) (v := ?_) rfl (by kernel_rfl) (by kernel_rfl) (by kernel_rfl) (fun _ _ _ h => h) (Or.inl ⟨by rfl, ?_⟩) (by assumption) ?_
  rotate_left
  · intro w hSw; (try dsimp only at hSw); go_simp; try (with_reducible rfl)
  rotate_left 0
  try simp only [Act.put, List.setIfInBounds_toArray, List.set_cons_zero, List.set_cons_succ]
  refine wpAnyH_take (i := 4) (oi := ⟨some 10, _, _, _, _, _⟩) (v := ?_) rfl (by kernel_rfl) (by kernel_rfl) (by kernel_rfl) (fun _ _ _ h => h) (Or.inl ⟨by rfl, ?_⟩) (by assumption) ?_
  rotate_left
  · intro w hSw; (try dsimp only at hSw); go_simp; try (with_reducible rfl)
  rotate_left 0
  try simp only [Act.put, List.setIfInBounds_toArray, List.set_cons_zero, List.set_cons_succ]
  refine wpAnyH_take (i := 6) (oi := ⟨some 12, _, _, _, _, _⟩) (v := ?_) rfl (by kernel_rfl) (by kernel_rfl) (by kernel_rfl) (fun _ _ _ h => h) (Or.inl ⟨by rfl, ?_⟩) (by assumption) ?_
  rotate_left
  · intro w hSw; (try dsimp only at hSw); go_simp; try (with_reducible rfl)
  rotate_left 0
  try simp only [Act.put, List.setIfInBounds_toArray, List.set_cons_zero, List.set_cons_succ]
  refine wpAnyH_take (i := 7) (oi := ⟨some 13, _, _, _, _, _⟩) (v := ?_) rfl (by kernel_rfl) (by kernel_rfl) (by kernel_rfl) (fun _ _ _ h => h) (Or.inl ⟨by rfl, ?_⟩) (by assumption) ?_
  rotate_left
  · intro w hSw; (try dsimp only at hSw); go_simp; try (with_reducible rfl)
  rotate_left 0
  try simp only [Act.put, List.setIfInBounds_toArray, List.set_cons_zero, List.set_cons_succ]
  refine wpAnyH_take (i := 9) (oi := ⟨some 15, _, _, _, _, _⟩) (v := ?_) rfl (by kernel_rfl) (by kernel_rfl) (by kernel_rfl) (fun _ _ _ h => h) (Or.inl ⟨by rfl, ?_⟩) (by assumption) ?_
  rotate_left
  · intro w hSw; (try dsimp only at hSw); go_simp; try (with_reducible rfl)
  rotate_left 0
  try simp only [Act.put, List.setIfInBounds_toArray, List.set_cons_zero, List.set_cons_succ]
  refine wpAnyH_take (i := 10) (oi := ⟨some 16, _, _, _, _, _⟩) (v := ?_) rfl (by kernel_rfl) (by kernel_rfl) (by kernel_rfl) (fun _ _ _ h => h) (Or.inl ⟨by rfl, ?_⟩) (by assumption) ?_
  rotate_left
  · intro w hSw; (try dsimp only at hSw); go_simp; try (with_reducible rfl)
  rotate_left 0
  try simp only [Act.put, List.setIfInBounds_toArray, List.set_cons_zero, List.set_cons_succ]
  refine wpAnyH_take (i := 12) (oi := ⟨some 18, _, _, _, _, _⟩) (v := ?_) rfl (by kernel_rfl) (by kernel_rfl) (by kernel_rfl) (fun _ _ _ h => h) (Or.inl ⟨by rfl, ?_⟩) (by assumption) ?_
  rotate_left
  · intro w hSw; (try dsimp only at hSw); go_simp; try (with_reducible rfl)
  rotate_left 0
  try simp only [Act.put, List.setIfInBounds_toArray, List.set_cons_zero, List.set_cons_succ]
  refine wpAnyH_take (i := 13) (oi := ⟨some 19, _, _, _, _, _⟩) (v := ?_) rfl (by kernel_rfl) (by kernel_rfl) (by kernel_rfl) (fun _ _ _ h => h) (Or.inl ⟨by rfl, ?_⟩) (by assumption) ?_
  rotate_left
  · intro w hSw; (try dsimp only at hSw); go_simp; try (with_reducible rfl)
  rotate_left 0
  try simp only [Act.put, List.setIfInBounds_toArray, List.set_cons_zero, List.set_cons_succ]
  refine wpAnyH_take (i := 15) (oi := ⟨some 21, _, _, _, _, _⟩) (v := ?_) rfl (by kernel_rfl) (by kernel_rfl) (by kernel_rfl) (fun _ _ _ h => h) (Or.inl ⟨by rfl, ?_⟩) (by assumption) ?_
  rotate_left
  · intro w hSw; (try dsimp only at hSw); go_simp; try (with_reducible rfl)
  rotate_left 0
  try simp only [Act.put, List.setIfInBounds_toArray, List.set_cons_zero, List.set_cons_succ]
  refine wpAnyH_take (i := 16) (oi := ⟨some 22, _, _, _, _, _⟩) (v := ?_) rfl (by kernel_rfl) (by kernel_rfl) (by kernel_rfl) (fun _ _ _ h => h) (Or.inl ⟨by rfl, ?_⟩) (by assumption) ?_
  rotate_left
  · intro w hSw; (try dsimp only at hSw); go_simp; try (with_reducible rfl)
  rotate_left 0
  try simp only [Act.put, List.setIfInBounds_toArray, List.set_cons_zero, List.set_cons_succ]
  refine wpAnyH_take (i := 17) (oi := ⟨some 23, _, _, _, _, _⟩) (v := .string ⟨r.data.toArray⟩) rfl (by kernel_rfl) (by kernel_rfl) (by kernel_rfl) (fun _ _ _ h => h) (Or.inl ⟨by rfl, ?_⟩) (by assumption) ?_
  · intro w' hSw; have hcv := str_rd (hSw.1); (try dsimp only at hSw); go_simp
  try simp only [Act.put, List.setIfInBounds_toArray, List.set_cons_zero, List.set_cons_succ]
  refine wpAnyH_ready (rs := [2]) (by kernel_rfl) (by simp) ?_
  refine AllReadyH.cons (o := ⟨some 8, _, _, _, _, _⟩) rfl (fun K hK => ?_) AllReadyH.nil
  go_simp
  refine (D1.out _).mono ?_
  rintro e w1 ⟨rfl, hb1⟩
  have q1 := Kp.call q hb1
  try dsimp only
  refine hK.out _ _ ?_ (fun hHeld => ?_)
  · exact ALL.out _ q1
  clear hK K
  try simp only [Act.put, List.setIfInBounds_toArray, List.set_cons_zero, List.set_cons_succ]
  refine wpAnyH_ready (rs := [5]) (by kernel_rfl) (by simp) ?_
  refine AllReadyH.cons (o := ⟨some 11, _, _, _, _, _⟩) rfl (fun K hK => ?_) AllReadyH.nil
  go_simp
  refine (D2.out _).mono ?_
  rintro e w2 ⟨rfl, hb2⟩
  have q2 := Kp.call q1 hb2
  try dsimp only
  refine hK.out _ _ ?_ (fun hHeld => ?_)
  · exact ALL.out _ q2
  clear hK K
  try simp only [Act.put, List.setIfInBounds_toArray, List.set_cons_zero, List.set_cons_succ]
  refine wpAnyH_ready (rs := [8]) (by kernel_rfl) (by simp) ?_
  refine AllReadyH.cons (o := ⟨some 14, _, _, _, _, _⟩) rfl (fun K hK => ?_) AllReadyH.nil
  go_simp
  refine (D3.out _).mono ?_
  rintro e w3 ⟨rfl, hb3⟩
  have q3 := Kp.call q2 hb3
  try dsimp only
  refine hK.out _ _ ?_ (fun hHeld => ?_)
  · exact ALL.out _ q3
  clear hK K
  try simp only [Act.put, List.setIfInBounds_toArray, List.set_cons_zero, List.set_cons_succ]
  refine wpAnyH_ready (rs := [11]) (by kernel_rfl) (by simp) ?_
  refine AllReadyH.cons (o := ⟨some 17, _, _, _, _, _⟩) rfl (fun K hK => ?_) AllReadyH.nil
  go_simp
  refine (D4.out _).mono ?_
  rintro e w4 ⟨rfl, hb4⟩
  have q4 := Kp.call q3 hb4
  try dsimp only
  refine hK.out _ _ ?_ (fun hHeld => ?_)
  · exact ALL.out _ q4
  clear hK K
  try simp only [Act.put, List.setIfInBounds_toArray, List.set_cons_zero, List.set_cons_succ]
  refine wpAnyH_ready (rs := [14]) (by kernel_rfl) (by simp) ?_
  refine AllReadyH.cons (o := ⟨some 20, _, _, _, _, _⟩) rfl (fun K hK => ?_) AllReadyH.nil
  go_simp
  refine (D5.out _).mono ?_
  rintro e w5 ⟨rfl, hb5⟩
  have q5 := Kp.call q4 hb5
  try dsimp only
  refine hK.out _ _ ?_ (fun hHeld => ?_)
  · exact ALL.out _ q5
  clear hK K
  try simp only [Act.put, List.setIfInBounds_toArray, List.set_cons_zero, List.set_cons_succ]
  refine wpAnyH_ready (rs := [18]) (by kernel_rfl) (by simp) ?_
  refine AllReadyH.cons (o := ⟨some 24, _, _, _, _, _⟩) rfl (fun K hK => ?_) AllReadyH.nil
  go_simp
  have q6 := Kp.alloc q5 (.cells #[.string ⟨s0.toArray⟩, .string ⟨s1.toArray⟩, .string ⟨s2.toArray⟩, .string ⟨s3.toArray⟩, .string ⟨s4.toArray⟩, .string ⟨#[]⟩, .string ⟨r.data.toArray⟩, .string ⟨#[]⟩, .string ⟨#[]⟩] 9)
  try dsimp only
  refine hK.out _ _ ?_ (fun hHeld => ?_)
  · exact ALL.out _ q6
  clear hK K
  try simp only [Act.put, List.setIfInBounds_toArray, List.set_cons_zero, List.set_cons_succ]
  refine wpAnyH_take (i := 19) (oi := ⟨some 3, _, _, _, _, _⟩) (v := ?_) rfl (by kernel_rfl) (by kernel_rfl) (by kernel_rfl) (fun _ _ _ h => h) (Or.inl ⟨by rfl, ?_⟩) (by assumption) ?_
  rotate_left
  · intro w hSw; (try dsimp only at hSw); go_simp; try (with_reducible rfl)
  rotate_left 0
  try simp only [Act.put, List.setIfInBounds_toArray, List.set_cons_zero, List.set_cons_succ]
  refine wpAnyH_done (by kernel_rfl) ?_ _
  have hwg : w.heap.size < w5.heap.size := by have := q5.size; simp at this; omega
  have hS : Blk (w5.alloc (.cells #[.string ⟨s0.toArray⟩, .string ⟨s1.toArray⟩, .string ⟨s2.toArray⟩, .string ⟨s3.toArray⟩, .string ⟨s4.toArray⟩, .string ⟨#[]⟩, .string ⟨r.data.toArray⟩, .string ⟨#[]⟩, .string ⟨#[]⟩] 9)) w5.heap.size 9 (arr 9 (strF s0 s1 s2 s3 s4 [] r.data [] [])) := Blk.newAt _ _ rfl (by rw [arr_list]; rfl)
  generalize w5.alloc (.cells #[.string ⟨s0.toArray⟩, .string ⟨s1.toArray⟩, .string ⟨s2.toArray⟩, .string ⟨s3.toArray⟩, .string ⟨s4.toArray⟩, .string ⟨#[]⟩, .string ⟨r.data.toArray⟩, .string ⟨#[]⟩, .string ⟨#[]⟩] 9) = W2 at *
  obtain ⟨g, hg⟩ : ∃ g, w5.heap.size = g := ⟨_, rfl⟩
  rw [hg] at hS hwg ⊢
  have HWA : Hid (w.heap.size < g) := Lib.hid hwg
  have hidc : ∀ i, i < 32 → W2.cell? ((⟨w.heap.size, 6, none⟩ : Addr).add i) = some ((fun i => bv (r.id i)) i) := fun i hi => (q6.cell (p := (⟨w.heap.size, 6, none⟩ : Addr).add i) (by rw [block_add]; simp)).trans (HIDC.out i hi)
  have HS := Lib.hid hS
  have HW := Lib.hid q6
  have heq := fun w' => neq_id r.id (fun _ => 0) w'
  have hz := built_zero
  have HTX := Lib.hid fun W => refText_any r.id W
  clear hHeld q q1 q2 q3 q4 q5 q6 hb1 hb2 hb3 hb4 hb5 ALL D1 D2 D3 D4 D5 hg hwg hS
  by_cases h0 : id32 r.id = zid
  · have HS1 : Hid (Blk W2 g 9 (arr 9 (strF s0 s1 s2 s3 s4 (idPart (id32 r.id)) r.data [] []))) := Lib.hid (by rw [idPart, if_pos h0]; exact HS.out)
    have HW1 := HW
    rw [id32_zero, h0, beq_self_eq_true] at heq
    obtain ⟨c, hc⟩ : ∃ c, (arr 32 fun i => bv (r.id i)) = c := ⟨_, rfl⟩
    have HC := Lib.hid hc
    rw [hc] at heq HTX
    clear hc h0
    go_wp2_with (first
      | (refine wpList_load_at rfl 31 _ rfl (⟨w.heap.size, 6, none⟩ : Addr) rfl 32 _ 5 hidc Try.underlying31 (by kernel_rfl) ?_; rw [HC.out])
      | (refine wpList_build rfl 31 #[] rfl (by kernel_rfl) ?_; simp only [List.map_toArray, List.map_nil]; rw [hz]))
    clear heq hz hidc HTX HC
    go_loopw [4] (fun i wr => ∃ k : Nat, k ≤ ni ∧ i = .int .i64 (k : Int) ∧ Blk wr g 9 (arr 9 (strF s0 s1 s2 s3 s4 (idPart (id32 r.id)) r.data ((r.ids.take k).map id32).flatten [])) ∧ Below (w.alloc (.cells M 36)).heap.size (w.alloc (.cells M 36)) wr) (fun i _ => ni - (intOf i).toNat)
    case atStart => exact ⟨0, by omega, rfl, HS1.out, HW1.out⟩
    case round =>
      obtain ⟨k, hk, rfl, hSk, hWk⟩ := hrel
      have HSK := Lib.hid hSk
      have HWK := Lib.hid hWk
      have c39 := CELL.out wr hWk _ _ C39.out
      clear hSk hWk
      by_cases hlt : k < ni
      · obtain ⟨ad, rfl, hok, hcell⟩ := (HRI.out.kept (W' := wr) fun a x ha h => ((HB.out.trans (HWK.out.mono (by simp))).cell (p := a) ha).trans h) k (by rw [HN.out.2.1]; exact hlt)
        have hkn : (k : Int) < (ni : Int) := by omega
        have HST := Lib.hid (ids_snoc r.ids k (by rw [HN.out.2.1]; exact hlt))
        have hbl := ids_len (r.ids.take k)
        rw [List.length_take] at hbl
        obtain ⟨f, hf⟩ : ∃ f, (r.ids.getD k fun _ => 0) = f := ⟨_, rfl⟩
        rw [hf] at hcell HST
        obtain ⟨b, hb⟩ : ∃ b, ((r.ids.take k).map id32).flatten = b := ⟨_, rfl⟩
        rw [hb] at HST hbl HSK
        have TX := Lib.hid fun W => refText_any f W
        have hfl := id32_length f
        obtain ⟨fi, hfi⟩ : ∃ fi, id32 f = fi := ⟨_, rfl⟩
        rw [hfi] at HST hfl TX
        have hcat : (({ data := b.toArray } : ByteArray) ++ { data := fi.toArray }) = ⟨(b ++ fi).toArray⟩ := ba_app _ _
        have hno : ¬ (9223372036854775807 < b.length + fi.length) := by omega
        have HM : Hid (32 * k = k * 32) := Lib.hid (Nat.mul_comm _ _)
        have q : Below wr.heap.size wr wr.drew := (Below.refl _ _).drew
        have CG : Hid (∀ W', Below wr.heap.size wr W' → W'.cell? ⟨g, 7, none⟩ = some (.string ⟨b.toArray⟩) ∧ W'.frozen? ⟨g, 7, none⟩ = false) := Lib.hid fun W' hb' => by
          have := HSK.out.below hb' HSK.out.lt
          exact ⟨by rw [this.cell, arr_get]; rfl, this.frozen 7⟩
        have hkb : w.heap.size < wr.heap.size := by have := HWK.out.size; simp at this; omega
        have ALL2 : Hid (∀ W', Below wr.heap.size wr W' → W'.cell? ⟨w.heap.size, 39, none⟩ = some (.slice (some ad) ni ci) ∧ ∀ i, i < 32 → W'.cell? ((ad.add (32 * k)).add i) = some (bv (f i))) := Lib.hid fun W' hb' =>
          ⟨(hb'.cell (p := ⟨w.heap.size, 39, none⟩) hkb).trans c39, fun i hi => by rw [add_add]; exact (hb'.cell (p := ad.add (32 * k + i)) (by rw [block_add]; exact Nat.lt_trans hok hkb)).trans (hcell i hi)⟩
        have ALL3 : Hid (∀ W', Below wr.heap.size wr W' → ∀ v, (W'.setCell ⟨g, 7, none⟩ v).cell? ⟨w.heap.size, 39, none⟩ = some (.slice (some ad) ni ci) ∧ ∀ i, i < 32 → (W'.setCell ⟨g, 7, none⟩ v).cell? ((ad.add (32 * k)).add i) = some (bv (f i))) := Lib.hid fun W' hb' v => by
          obtain ⟨h1, h2⟩ := ALL2.out W' hb'
          have hg := HWA.out
          exact ⟨(World.cell?_of_block (Below.heap_setCell W' ⟨g, 7, none⟩ v _ (by show w.heap.size ≠ g; omega))).trans h1, fun i hi => (World.cell?_of_block (Below.heap_setCell W' ⟨g, 7, none⟩ v _ (by rw [block_add, block_add]; show ad.block ≠ g; omega))).trans (h2 i hi)⟩
        clear hcell hok hb hf hfi hfl hbl
        go_wp2
        refine wp_region_held_drew (S := fun w' => w'.cell? ⟨w.heap.size, 39, none⟩ = some (.slice (some ad) ni ci) ∧ ∀ i, i < 32 → w'.cell? ((ad.add (32 * k)).add i) = some (bv (f i))) (by kernel_rfl) ?_ (fun hHeld => ?_)
        · exact ALL2.out _ q
        refine wpAnyH_take (i := 0) (oi := ⟨some 41, _, _, _, _, _⟩) (v := ?_) rfl (by kernel_rfl) (by kernel_rfl) (by kernel_rfl) (fun _ _ _ h => h) (Or.inl ⟨by rfl, ?_⟩) (by assumption) ?_
        rotate_left
        · intro w hSw; (try dsimp only at hSw); go_simp; try (with_reducible rfl)
        rotate_left 0
        try simp only [Act.put, List.setIfInBounds_toArray, List.set_cons_zero, List.set_cons_succ]
        refine wpAnyH_take (i := 1) (oi := ⟨some 42, _, _, _, _, _⟩) (v := ?_) rfl (by kernel_rfl) (by kernel_rfl) (by kernel_rfl) (fun _ _ _ h => h) (Or.inl ⟨by rfl, ?_⟩) (by assumption) ?_
        rotate_left
        · intro w hSw; (try dsimp only at hSw); go_simp; try (with_reducible rfl)
        rotate_left 0
        try simp only [Act.put, List.setIfInBounds_toArray, List.set_cons_zero, List.set_cons_succ]
        refine wpAnyH_take (i := 3) (oi := ⟨some 44, _, _, _, _, _⟩) (v := ?_) rfl (by kernel_rfl) (by kernel_rfl) (by kernel_rfl) (fun _ _ _ h => h) (Or.inl ⟨by rfl, ?_⟩) (by assumption) ?_
        rotate_left
        · intro w hSw; (try dsimp only at hSw); go_simp; try (with_reducible rfl)
        rotate_left 0
        try simp only [Act.put, List.setIfInBounds_toArray, List.set_cons_zero, List.set_cons_succ]
        refine wpAnyH_take (i := 4) (oi := ⟨some 45, _, _, _, _, _⟩) (v := ?_) rfl (by kernel_rfl) (by kernel_rfl) (by kernel_rfl) (fun _ _ _ h => h) (Or.inl ⟨by rfl, ?_⟩) (by assumption) ?_
        rotate_left
        · intro w hSw; (try dsimp only at hSw); go_simp; try (with_reducible rfl)
        rotate_left 0
        try simp only [Act.put, List.setIfInBounds_toArray, List.set_cons_zero, List.set_cons_succ]
        refine wpAnyH_take (i := 5) (oi := ⟨some 46, _, _, _, _, _⟩) (v := ?_) rfl (by kernel_rfl) (by kernel_rfl) (by kernel_rfl) (fun _ _ _ h => h) (Or.inl ⟨by rfl, ?_⟩) (by assumption) ?_
        rotate_left
        · intro w hSw; (try dsimp only at hSw); go_simp; try (with_reducible rfl)
        rotate_left 0
        try simp only [Act.put, List.setIfInBounds_toArray, List.set_cons_zero, List.set_cons_succ]
        refine wpAnyH_take (i := 6) (oi := ⟨some 47, _, _, _, _, _⟩) (v := ?_) rfl (by kernel_rfl) (by kernel_rfl) (by kernel_rfl) (fun _ _ _ h => h) (Or.inl ⟨by rfl, ?_⟩) (by assumption) ?_
        rotate_left
        · intro w hSw; (try dsimp only at hSw); go_simp; try (with_reducible rfl)
        rotate_left 0
        try simp only [Act.put, List.setIfInBounds_toArray, List.set_cons_zero, List.set_cons_succ]
        refine wpAnyH_take (i := 7) (oi := ⟨some 48, _, _, _, _, _⟩) (v := .agg (arr 32 fun i => bv (f i))) rfl (by kernel_rfl) (by kernel_rfl) (by kernel_rfl) (fun _ _ _ h => h) (yieldsIf_load_at (by rfl) _ _ rfl (ad.add (32 * k)) (by first | rfl | (rw [HM.out]; rfl)) 32 _ 5 (fun _ hS => hS.2) Try.underlying31 (by kernel_rfl)) (by assumption) ?_
        try simp only [Act.put, List.setIfInBounds_toArray, List.set_cons_zero, List.set_cons_succ]
        refine wpAnyH_ready (rs := [2, 8]) (by kernel_rfl) (by simp) ?_
        refine AllReadyH.cons (o := ⟨some 43, _, _, _, _, _⟩) rfl (fun K hK => ?_) (AllReadyH.cons (o := ⟨some 49, _, _, _, _, _⟩) rfl (fun K hK => ?_) AllReadyH.nil)
        · have h7 := (CG.out _ q).1
          go_simp
          try dsimp only
          refine hK.out _ _ ?_ (fun hHeld => ?_)
          · exact ALL2.out _ q
          clear hK K
          try simp only [Act.put, List.setIfInBounds_toArray, List.set_cons_zero, List.set_cons_succ]
          clear h7
          refine wpAnyH_ready (rs := [8]) (by kernel_rfl) (by simp) ?_
          refine AllReadyH.cons (o := ⟨some 49, _, _, _, _, _⟩) rfl (fun K hK => ?_) AllReadyH.nil
          go_simp
          refine (TX.out _).mono ?_
          rintro e w1 ⟨rfl, hb1⟩
          have q1 := Kp.call q hb1
          try dsimp only
          refine hK.out _ _ ?_ (fun hHeld => ?_)
          · exact ALL2.out _ q1
          clear hK K
          try simp only [Act.put, List.setIfInBounds_toArray, List.set_cons_zero, List.set_cons_succ]
          refine wpAnyH_take (i := 9) (oi := ⟨some 50, _, _, _, _, _⟩) (v := ?_) rfl (by kernel_rfl) (by kernel_rfl) (by kernel_rfl) (fun _ _ _ h => h) (Or.inl ⟨by rfl, ?_⟩) (by assumption) ?_
          rotate_left
          · intro w hSw; (try dsimp only at hSw); go_simp; try (with_reducible rfl)
          rotate_left 0
          try simp only [Act.put, List.setIfInBounds_toArray, List.set_cons_zero, List.set_cons_succ]
          refine wpAnyH_take (i := 10) (oi := ⟨some 51, _, _, _, _, _⟩) (v := ?_) rfl (by kernel_rfl) (by kernel_rfl) (by kernel_rfl) (fun _ _ _ h => h) (Or.inl ⟨by rfl, ?_⟩) (by assumption) ?_
          rotate_left
          · intro w hSw; (try dsimp only at hSw); go_simp; try (with_reducible rfl)
          rotate_left 0
          try simp only [Act.put, List.setIfInBounds_toArray, List.set_cons_zero, List.set_cons_succ]
          refine wpAnyH_ready (rs := [11]) (by kernel_rfl) (by simp) ?_
          refine AllReadyH.cons (o := ⟨none, _, _, _, _, _⟩) rfl (fun K hK => ?_) AllReadyH.nil
          obtain ⟨h7, f7⟩ := CG.out _ q1
          go_simp
          refine hK.out _ _ ?_ (fun hHeld => ?_)
          · exact ALL3.out _ q1 _
          clear hK K h7 f7
          try simp only [Act.put, List.setIfInBounds_toArray, List.set_cons_zero, List.set_cons_succ]
          refine wpAnyH_done (by kernel_rfl) ?_ _
          have Q1 := Lib.hid q1
          clear hHeld q q1 hb1 ALL2 ALL3 CG
          go_wp2
          go_roundw
          case rel => exact ⟨k + 1, by omega, by go_num, by rw [HST.out, ← strF_set7 s0 s1 s2 s3 s4 _ r.data b]; exact (HSK.out.below Q1.out HSK.out.lt).store 7 _, (HWK.out.trans (Q1.out.mono HWK.out.size)).setCell (by have := HWA.out; simp; omega) _⟩
          case measure => simp [intOf]; omega
        · go_simp
          refine (TX.out _).mono ?_
          rintro e w1 ⟨rfl, hb1⟩
          have q1 := Kp.call q hb1
          try dsimp only
          refine hK.out _ _ ?_ (fun hHeld => ?_)
          · exact ALL2.out _ q1
          clear hK K
          try simp only [Act.put, List.setIfInBounds_toArray, List.set_cons_zero, List.set_cons_succ]
          refine wpAnyH_ready (rs := [2]) (by kernel_rfl) (by simp) ?_
          refine AllReadyH.cons (o := ⟨some 43, _, _, _, _, _⟩) rfl (fun K hK => ?_) AllReadyH.nil
          have h7 := (CG.out _ q1).1
          go_simp
          try dsimp only
          refine hK.out _ _ ?_ (fun hHeld => ?_)
          · exact ALL2.out _ q1
          clear hK K
          try simp only [Act.put, List.setIfInBounds_toArray, List.set_cons_zero, List.set_cons_succ]
          clear h7
          refine wpAnyH_take (i := 9) (oi := ⟨some 50, _, _, _, _, _⟩) (v := ?_) rfl (by kernel_rfl) (by kernel_rfl) (by kernel_rfl) (fun _ _ _ h => h) (Or.inl ⟨by rfl, ?_⟩) (by assumption) ?_
          rotate_left
          · intro w hSw; (try dsimp only at hSw); go_simp; try (with_reducible rfl)
          rotate_left 0
          try simp only [Act.put, List.setIfInBounds_toArray, List.set_cons_zero, List.set_cons_succ]
          refine wpAnyH_take (i := 10) (oi := ⟨some 51, _, _, _, _, _⟩) (v := ?_) rfl (by kernel_rfl) (by kernel_rfl) (by kernel_rfl) (fun _ _ _ h => h) (Or.inl ⟨by rfl, ?_⟩) (by assumption) ?_
          rotate_left
          · intro w hSw; (try dsimp only at hSw); go_simp; try (with_reducible rfl)
          rotate_left 0
          try simp only [Act.put, List.setIfInBounds_toArray, List.set_cons_zero, List.set_cons_succ]
          refine wpAnyH_ready (rs := [11]) (by kernel_rfl) (by simp) ?_
          refine AllReadyH.cons (o := ⟨none, _, _, _, _, _⟩) rfl (fun K hK => ?_) AllReadyH.nil
          obtain ⟨h7, f7⟩ := CG.out _ q1
          go_simp
          refine hK.out _ _ ?_ (fun hHeld => ?_)
          · exact ALL3.out _ q1 _
          clear hK K h7 f7
          try simp only [Act.put, List.setIfInBounds_toArray, List.set_cons_zero, List.set_cons_succ]
          refine wpAnyH_done (by kernel_rfl) ?_ _
          have Q1 := Lib.hid q1
          clear hHeld q q1 hb1 ALL2 ALL3 CG
          go_wp2
          go_roundw
          case rel => exact ⟨k + 1, by omega, by go_num, by rw [HST.out, ← strF_set7 s0 s1 s2 s3 s4 _ r.data b]; exact (HSK.out.below Q1.out HSK.out.lt).store 7 _, (HWK.out.trans (Q1.out.mono HWK.out.size)).setCell (by have := HWA.out; simp; omega) _⟩
          case measure => simp [intOf]; omega
      · obtain rfl : k = ni := by omega
        have e : r.ids.take k = r.ids := by rw [← HN.out.2.1]; simp
        rw [e] at HSK
        clear e
        go_wp2
        go_loopw [5] (fun i wr => ∃ k : Nat, k ≤ nl ∧ i = .int .i64 (k : Int) ∧ Blk wr g 9 (arr 9 (strF s0 s1 s2 s3 s4 (idPart (id32 r.id)) r.data (r.ids.map id32).flatten ((r.list.take k).map run).flatten)) ∧ Below (w.alloc (.cells M 36)).heap.size (w.alloc (.cells M 36)) wr) (fun i _ => nl - (intOf i).toNat)
        case atStart => exact ⟨0, by omega, rfl, HSK.out, HWK.out⟩
        case round =>
          clear c39 HSK HWK
          obtain ⟨k, hk, rfl, hSk, hWk⟩ := hrel
          have HSK := Lib.hid hSk
          have HWK := Lib.hid hWk
          have c40 := CELL.out wr hWk _ _ C40.out
          clear hSk hWk
          by_cases hlt : k < nl
          · obtain ⟨ad, v, rfl, hok, hcell, hread⟩ := (HRL.out.kept (W' := wr) fun a x ha h => ((HB.out.trans (HWK.out.mono (by simp))).cell (p := a) ha).trans h) k (by rw [HN.out.2.2]; exact hlt)
            have hkn : (k : Int) < (nl : Int) := by omega
            have HST := Lib.hid (take_runs r.list k (by rw [HN.out.2.2]; exact hlt))
            have hbl := take_runs_length r.list k
            rw [HN.out.2.2] at hbl
            have hpl := sum_le r.list (r.list.getD k []) (by rw [List.getD_eq_getElem?_getD, List.getElem?_eq_getElem (by rw [HN.out.2.2]; exact hlt)]; simp)
            obtain ⟨p, hp⟩ : ∃ p, r.list.getD k [] = p := ⟨_, rfl⟩
            rw [hp] at hread HST hpl
            obtain ⟨A0, c0', rfl, hc0, hn0, hcs0⟩ := id hread
            obtain ⟨m, hm⟩ : ∃ m, p.length = m := ⟨_, rfl⟩
            rw [hm] at hread hcell
            obtain ⟨b, hb⟩ : ∃ b, ((r.list.take k).map run).flatten = b := ⟨_, rfl⟩
            rw [hb] at HST hbl HSK
            have TX := Lib.hid fun W => refRun_any p (by omega) W
            have hfl : (run p).length = 3 + m := by rw [run, List.length_append, hm]; rfl
            obtain ⟨fi, hfi⟩ : ∃ fi, run p = fi := ⟨_, rfl⟩
            rw [hfi] at HST hfl TX
            have hcat : (({ data := b.toArray } : ByteArray) ++ { data := fi.toArray }) = ⟨(b ++ fi).toArray⟩ := ba_app _ _
            have hno : ¬ (9223372036854775807 < b.length + fi.length) := by omega
            have q : Below wr.heap.size wr wr.drew := (Below.refl _ _).drew
            have CG : Hid (∀ W', Below wr.heap.size wr W' → W'.cell? ⟨g, 8, none⟩ = some (.string ⟨b.toArray⟩) ∧ W'.frozen? ⟨g, 8, none⟩ = false) := Lib.hid fun W' hb' => by
              have := HSK.out.below hb' HSK.out.lt
              exact ⟨by rw [this.cell, arr_get]; rfl, this.frozen 8⟩
            have hkb : w.heap.size < wr.heap.size := by have := HWK.out.size; simp at this; omega
            have ALL2 : Hid (∀ W', Below wr.heap.size wr W' → RdB W' (fun b => b < w.heap.size) (.slice A0 m c0') p ∧ W'.cell? ⟨w.heap.size, 40, none⟩ = some (.slice (some ad) nl cl) ∧ W'.cell? (ad.add k) = some (.slice A0 m c0')) := Lib.hid fun W' hb' =>
              ⟨hread.kept fun a x ha h => (hb'.cell (p := a) (Nat.lt_trans ha hkb)).trans h, (hb'.cell (p := ⟨w.heap.size, 40, none⟩) hkb).trans c40, (hb'.cell (p := ad.add k) (by rw [block_add]; exact Nat.lt_trans hok hkb)).trans hcell⟩
            have ALL3 : Hid (∀ W', Below wr.heap.size wr W' → ∀ v, RdB (W'.setCell ⟨g, 8, none⟩ v) (fun b => b < w.heap.size) (.slice A0 m c0') p ∧ (W'.setCell ⟨g, 8, none⟩ v).cell? ⟨w.heap.size, 40, none⟩ = some (.slice (some ad) nl cl) ∧ (W'.setCell ⟨g, 8, none⟩ v).cell? (ad.add k) = some (.slice A0 m c0')) := Lib.hid fun W' hb' v => by
              obtain ⟨h1, h2, h3⟩ := ALL2.out W' hb'
              have hg := HWA.out
              refine ⟨h1.kept fun a x ha h => (World.cell?_of_block (Below.heap_setCell W' ⟨g, 8, none⟩ v _ (by show a.block ≠ g; have : a.block < w.heap.size := ha; omega))).trans h, (World.cell?_of_block (Below.heap_setCell W' ⟨g, 8, none⟩ v _ (by show w.heap.size ≠ g; omega))).trans h2, (World.cell?_of_block (Below.heap_setCell W' ⟨g, 8, none⟩ v _ (by rw [block_add]; show ad.block ≠ g; omega))).trans h3⟩
            clear hcell hok hb hp hfi hfl hbl hread hc0 hn0 hcs0 hpl hm
            go_wp2
            refine wp_region_held_drew (S := fun w' => RdB w' (fun b => b < w.heap.size) (.slice A0 m c0') p ∧ w'.cell? ⟨w.heap.size, 40, none⟩ = some (.slice (some ad) nl cl) ∧ w'.cell? (ad.add k) = some (.slice A0 m c0')) (by kernel_rfl) ?_ (fun hHeld => ?_)
            · exact ALL2.out _ q
            refine wpAnyH_take (i := 0) (oi := ⟨some 59, _, _, _, _, _⟩) (v := ?_) rfl (by kernel_rfl) (by kernel_rfl) (by kernel_rfl) (fun _ _ _ h => h) (Or.inl ⟨by rfl, ?_⟩) (by assumption) ?_
            rotate_left
            · intro w hSw; (try dsimp only at hSw); go_simp; try (with_reducible rfl)
            rotate_left 0
            try simp only [Act.put, List.setIfInBounds_toArray, List.set_cons_zero, List.set_cons_succ]
            refine wpAnyH_take (i := 1) (oi := ⟨some 60, _, _, _, _, _⟩) (v := ?_) rfl (by kernel_rfl) (by kernel_rfl) (by kernel_rfl) (fun _ _ _ h => h) (Or.inl ⟨by rfl, ?_⟩) (by assumption) ?_
            rotate_left
            · intro w hSw; (try dsimp only at hSw); go_simp; try (with_reducible rfl)
            rotate_left 0
            try simp only [Act.put, List.setIfInBounds_toArray, List.set_cons_zero, List.set_cons_succ]
            refine wpAnyH_take (i := 3) (oi := ⟨some 62, _, _, _, _, _⟩) (v := ?_) rfl (by kernel_rfl) (by kernel_rfl) (by kernel_rfl) (fun _ _ _ h => h) (Or.inl ⟨by rfl, ?_⟩) (by assumption) ?_
            rotate_left
            · intro w hSw; (try dsimp only at hSw); go_simp; try (with_reducible rfl)
            rotate_left 0
            try simp only [Act.put, List.setIfInBounds_toArray, List.set_cons_zero, List.set_cons_succ]
            refine wpAnyH_take (i := 4) (oi := ⟨some 63, _, _, _, _, _⟩) (v := ?_) rfl (by kernel_rfl) (by kernel_rfl) (by kernel_rfl) (fun _ _ _ h => h) (Or.inl ⟨by rfl, ?_⟩) (by assumption) ?_
            rotate_left
            · intro w hSw; (try dsimp only at hSw); go_simp; try (with_reducible rfl)
            rotate_left 0
            try simp only [Act.put, List.setIfInBounds_toArray, List.set_cons_zero, List.set_cons_succ]
            refine wpAnyH_take (i := 5) (oi := ⟨some 64, _, _, _, _, _⟩) (v := ?_) rfl (by kernel_rfl) (by kernel_rfl) (by kernel_rfl) (fun _ _ _ h => h) (Or.inl ⟨by rfl, ?_⟩) (by assumption) ?_
            rotate_left
            · intro w hSw; (try dsimp only at hSw); go_simp; try (with_reducible rfl)
            rotate_left 0
            try simp only [Act.put, List.setIfInBounds_toArray, List.set_cons_zero, List.set_cons_succ]
            refine wpAnyH_take (i := 6) (oi := ⟨some 65, _, _, _, _, _⟩) (v := ?_) rfl (by kernel_rfl) (by kernel_rfl) (by kernel_rfl) (fun _ _ _ h => h) (Or.inl ⟨by rfl, ?_⟩) (by assumption) ?_
            rotate_left
            · intro w hSw; (try dsimp only at hSw); go_simp; try (with_reducible rfl)
            rotate_left 0
            try simp only [Act.put, List.setIfInBounds_toArray, List.set_cons_zero, List.set_cons_succ]
            refine wpAnyH_take (i := 7) (oi := ⟨some 66, _, _, _, _, _⟩) (v := ?_) rfl (by kernel_rfl) (by kernel_rfl) (by kernel_rfl) (fun _ _ _ h => h) (Or.inl ⟨by rfl, ?_⟩) (by assumption) ?_
            rotate_left
            · intro w hSw; (try dsimp only at hSw); go_simp; try (with_reducible rfl)
            rotate_left 0
            try simp only [Act.put, List.setIfInBounds_toArray, List.set_cons_zero, List.set_cons_succ]
            refine wpAnyH_take (i := 8) (oi := ⟨some 67, _, _, _, _, _⟩) (v := .string ⟨p.toArray⟩) rfl (by kernel_rfl) (by kernel_rfl) (by kernel_rfl) (fun _ _ _ h => h) (Or.inl ⟨by rfl, ?_⟩) (by assumption) ?_
            · intro w' hSw; have hcv := str_rd (hSw.1); (try dsimp only at hSw); go_simp
            try simp only [Act.put, List.setIfInBounds_toArray, List.set_cons_zero, List.set_cons_succ]
            refine wpAnyH_ready (rs := [2, 9]) (by kernel_rfl) (by simp) ?_
            refine AllReadyH.cons (o := ⟨some 61, _, _, _, _, _⟩) rfl (fun K hK => ?_) (AllReadyH.cons (o := ⟨some 68, _, _, _, _, _⟩) rfl (fun K hK => ?_) AllReadyH.nil)
            · have h7 := (CG.out _ q).1
              go_simp
              try dsimp only
              refine hK.out _ _ ?_ (fun hHeld => ?_)
              · exact ALL2.out _ q
              clear hK K
              try simp only [Act.put, List.setIfInBounds_toArray, List.set_cons_zero, List.set_cons_succ]
              clear h7
              refine wpAnyH_ready (rs := [9]) (by kernel_rfl) (by simp) ?_
              refine AllReadyH.cons (o := ⟨some 68, _, _, _, _, _⟩) rfl (fun K hK => ?_) AllReadyH.nil
              go_simp
              refine (TX.out _).mono ?_
              rintro e w1 ⟨rfl, hb1⟩
              have q1 := Kp.call q hb1
              try dsimp only
              refine hK.out _ _ ?_ (fun hHeld => ?_)
              · exact ALL2.out _ q1
              clear hK K
              try simp only [Act.put, List.setIfInBounds_toArray, List.set_cons_zero, List.set_cons_succ]
              refine wpAnyH_take (i := 10) (oi := ⟨some 69, _, _, _, _, _⟩) (v := ?_) rfl (by kernel_rfl) (by kernel_rfl) (by kernel_rfl) (fun _ _ _ h => h) (Or.inl ⟨by rfl, ?_⟩) (by assumption) ?_
              rotate_left
              · intro w hSw; (try dsimp only at hSw); go_simp; try (with_reducible rfl)
              rotate_left 0
              try simp only [Act.put, List.setIfInBounds_toArray, List.set_cons_zero, List.set_cons_succ]
              refine wpAnyH_take (i := 11) (oi := ⟨some 70, _, _, _, _, _⟩) (v := ?_) rfl (by kernel_rfl) (by kernel_rfl) (by kernel_rfl) (fun _ _ _ h => h) (Or.inl ⟨by rfl, ?_⟩) (by assumption) ?_
              rotate_left
              · intro w hSw; (try dsimp only at hSw); go_simp; try (with_reducible rfl)
              rotate_left 0
              try simp only [Act.put, List.setIfInBounds_toArray, List.set_cons_zero, List.set_cons_succ]
              refine wpAnyH_ready (rs := [12]) (by kernel_rfl) (by simp) ?_
              refine AllReadyH.cons (o := ⟨none, _, _, _, _, _⟩) rfl (fun K hK => ?_) AllReadyH.nil
              obtain ⟨h7, f7⟩ := CG.out _ q1
              go_simp
              refine hK.out _ _ ?_ (fun hHeld => ?_)
              · exact ALL3.out _ q1 _
              clear hK K h7 f7
              try simp only [Act.put, List.setIfInBounds_toArray, List.set_cons_zero, List.set_cons_succ]
              refine wpAnyH_done (by kernel_rfl) ?_ _
              have Q1 := Lib.hid q1
              clear hHeld q q1 hb1 ALL2 ALL3 CG
              go_wp2
              go_roundw
              case rel => exact ⟨k + 1, by omega, by go_num, by rw [HST.out, ← strF_set8 s0 s1 s2 s3 s4 _ r.data _ b]; exact (HSK.out.below Q1.out HSK.out.lt).store 8 _, (HWK.out.trans (Q1.out.mono HWK.out.size)).setCell (by have := HWA.out; simp; omega) _⟩
              case measure => simp [intOf]; omega
            · go_simp
              refine (TX.out _).mono ?_
              rintro e w1 ⟨rfl, hb1⟩
              have q1 := Kp.call q hb1
              try dsimp only
              refine hK.out _ _ ?_ (fun hHeld => ?_)
              · exact ALL2.out _ q1
              clear hK K
              try simp only [Act.put, List.setIfInBounds_toArray, List.set_cons_zero, List.set_cons_succ]
              refine wpAnyH_ready (rs := [2]) (by kernel_rfl) (by simp) ?_
              refine AllReadyH.cons (o := ⟨some 61, _, _, _, _, _⟩) rfl (fun K hK => ?_) AllReadyH.nil
              have h7 := (CG.out _ q1).1
              go_simp
              try dsimp only
              refine hK.out _ _ ?_ (fun hHeld => ?_)
              · exact ALL2.out _ q1
              clear hK K
              try simp only [Act.put, List.setIfInBounds_toArray, List.set_cons_zero, List.set_cons_succ]
              clear h7
              refine wpAnyH_take (i := 10) (oi := ⟨some 69, _, _, _, _, _⟩) (v := ?_) rfl (by kernel_rfl) (by kernel_rfl) (by kernel_rfl) (fun _ _ _ h => h) (Or.inl ⟨by rfl, ?_⟩) (by assumption) ?_
              rotate_left
              · intro w hSw; (try dsimp only at hSw); go_simp; try (with_reducible rfl)
              rotate_left 0
              try simp only [Act.put, List.setIfInBounds_toArray, List.set_cons_zero, List.set_cons_succ]
              refine wpAnyH_take (i := 11) (oi := ⟨some 70, _, _, _, _, _⟩) (v := ?_) rfl (by kernel_rfl) (by kernel_rfl) (by kernel_rfl) (fun _ _ _ h => h) (Or.inl ⟨by rfl, ?_⟩) (by assumption) ?_
              rotate_left
              · intro w hSw; (try dsimp only at hSw); go_simp; try (with_reducible rfl)
              rotate_left 0
              try simp only [Act.put, List.setIfInBounds_toArray, List.set_cons_zero, List.set_cons_succ]
              refine wpAnyH_ready (rs := [12]) (by kernel_rfl) (by simp) ?_
              refine AllReadyH.cons (o := ⟨none, _, _, _, _, _⟩) rfl (fun K hK => ?_) AllReadyH.nil
              obtain ⟨h7, f7⟩ := CG.out _ q1
              go_simp
              refine hK.out _ _ ?_ (fun hHeld => ?_)
              · exact ALL3.out _ q1 _
              clear hK K h7 f7
              try simp only [Act.put, List.setIfInBounds_toArray, List.set_cons_zero, List.set_cons_succ]
              refine wpAnyH_done (by kernel_rfl) ?_ _
              have Q1 := Lib.hid q1
              clear hHeld q q1 hb1 ALL2 ALL3 CG
              go_wp2
              go_roundw
              case rel => exact ⟨k + 1, by omega, by go_num, by rw [HST.out, ← strF_set8 s0 s1 s2 s3 s4 _ r.data _ b]; exact (HSK.out.below Q1.out HSK.out.lt).store 8 _, (HWK.out.trans (Q1.out.mono HWK.out.size)).setCell (by have := HWA.out; simp; omega) _⟩
              case measure => simp [intOf]; omega
          · obtain rfl : k = nl := by omega
            have e : r.list.take k = r.list := by rw [← HN.out.2.2]; simp
            rw [e] at HSK
            clear e
            go_wp2
            go_ret
            exact ⟨g, rfl, by have := HWA.out; omega, HSK.out.same (arr_congr fun j _ => HPARTS.out j), HB.out.trans (HWK.out.mono (by simp))⟩
  · have HS1 : Hid (∀ W', Below W2.heap.size W2 W' → Blk (W'.setCell ⟨g, 5, none⟩ (.string ⟨(id32 r.id).toArray⟩)) g 9 (arr 9 (strF s0 s1 s2 s3 s4 (idPart (id32 r.id)) r.data [] []))) := Lib.hid fun W' hb => by
      rw [idPart, if_neg h0, ← strF_set5 s0 s1 s2 s3 s4 []]
      exact (HS.out.below hb HS.out.lt).store 5 _
    have hb0 : (id32 r.id == zid) = false := by simpa using h0
    rw [id32_zero, hb0] at heq
    obtain ⟨c, hc⟩ : ∃ c, (arr 32 fun i => bv (r.id i)) = c := ⟨_, rfl⟩
    have HC := Lib.hid hc
    rw [hc] at heq HTX
    clear hc h0 hb0
    go_wp2_with (first
      | (refine wpList_load_at rfl 31 _ rfl (⟨w.heap.size, 6, none⟩ : Addr) rfl 32 _ 5 hidc Try.underlying31 (by kernel_rfl) ?_; rw [HC.out])
      | (refine wpList_build rfl 31 #[] rfl (by kernel_rfl) ?_; simp only [List.map_toArray, List.map_nil]; rw [hz])
      | (go_at_call 32; refine (HTX.out _).mono ?_; rintro e w3 ⟨rfl, hb3⟩; have hS3 := HS.out.below hb3 HS.out.lt; have c5 := hS3.cell 5; have f5 := hS3.frozen 5; rw [arr_get, if_pos (by omega)] at c5))
    have HS1 := Lib.hid (HS1.out w3 hb3)
    have HW1 := Lib.hid ((HW.out.trans (hb3.mono HW.out.size)).setCell (p := ⟨g, 5, none⟩) (by have := HWA.out; simp; omega) (.string ⟨(id32 r.id).toArray⟩))
    clear heq hz hidc HTX HC hS3 c5 f5 hb3
    go_loopw [4] (fun i wr => ∃ k : Nat, k ≤ ni ∧ i = .int .i64 (k : Int) ∧ Blk wr g 9 (arr 9 (strF s0 s1 s2 s3 s4 (idPart (id32 r.id)) r.data ((r.ids.take k).map id32).flatten [])) ∧ Below (w.alloc (.cells M 36)).heap.size (w.alloc (.cells M 36)) wr) (fun i _ => ni - (intOf i).toNat)
    case atStart => exact ⟨0, by omega, rfl, HS1.out, HW1.out⟩
    case round =>
      obtain ⟨k, hk, rfl, hSk, hWk⟩ := hrel
      have HSK := Lib.hid hSk
      have HWK := Lib.hid hWk
      have c39 := CELL.out wr hWk _ _ C39.out
      clear hSk hWk
      by_cases hlt : k < ni
      · obtain ⟨ad, rfl, hok, hcell⟩ := (HRI.out.kept (W' := wr) fun a x ha h => ((HB.out.trans (HWK.out.mono (by simp))).cell (p := a) ha).trans h) k (by rw [HN.out.2.1]; exact hlt)
        have hkn : (k : Int) < (ni : Int) := by omega
        have HST := Lib.hid (ids_snoc r.ids k (by rw [HN.out.2.1]; exact hlt))
        have hbl := ids_len (r.ids.take k)
        rw [List.length_take] at hbl
        obtain ⟨f, hf⟩ : ∃ f, (r.ids.getD k fun _ => 0) = f := ⟨_, rfl⟩
        rw [hf] at hcell HST
        obtain ⟨b, hb⟩ : ∃ b, ((r.ids.take k).map id32).flatten = b := ⟨_, rfl⟩
        rw [hb] at HST hbl HSK
        have TX := Lib.hid fun W => refText_any f W
        have hfl := id32_length f
        obtain ⟨fi, hfi⟩ : ∃ fi, id32 f = fi := ⟨_, rfl⟩
        rw [hfi] at HST hfl TX
        have hcat : (({ data := b.toArray } : ByteArray) ++ { data := fi.toArray }) = ⟨(b ++ fi).toArray⟩ := ba_app _ _
        have hno : ¬ (9223372036854775807 < b.length + fi.length) := by omega
        have HM : Hid (32 * k = k * 32) := Lib.hid (Nat.mul_comm _ _)
        have q : Below wr.heap.size wr wr.drew := (Below.refl _ _).drew
        have CG : Hid (∀ W', Below wr.heap.size wr W' → W'.cell? ⟨g, 7, none⟩ = some (.string ⟨b.toArray⟩) ∧ W'.frozen? ⟨g, 7, none⟩ = false) := Lib.hid fun W' hb' => by
          have := HSK.out.below hb' HSK.out.lt
          exact ⟨by rw [this.cell, arr_get]; rfl, this.frozen 7⟩
        have hkb : w.heap.size < wr.heap.size := by have := HWK.out.size; simp at this; omega
        have ALL2 : Hid (∀ W', Below wr.heap.size wr W' → W'.cell? ⟨w.heap.size, 39, none⟩ = some (.slice (some ad) ni ci) ∧ ∀ i, i < 32 → W'.cell? ((ad.add (32 * k)).add i) = some (bv (f i))) := Lib.hid fun W' hb' =>
          ⟨(hb'.cell (p := ⟨w.heap.size, 39, none⟩) hkb).trans c39, fun i hi => by rw [add_add]; exact (hb'.cell (p := ad.add (32 * k + i)) (by rw [block_add]; exact Nat.lt_trans hok hkb)).trans (hcell i hi)⟩
        have ALL3 : Hid (∀ W', Below wr.heap.size wr W' → ∀ v, (W'.setCell ⟨g, 7, none⟩ v).cell? ⟨w.heap.size, 39, none⟩ = some (.slice (some ad) ni ci) ∧ ∀ i, i < 32 → (W'.setCell ⟨g, 7, none⟩ v).cell? ((ad.add (32 * k)).add i) = some (bv (f i))) := Lib.hid fun W' hb' v => by
          obtain ⟨h1, h2⟩ := ALL2.out W' hb'
          have hg := HWA.out
          exact ⟨(World.cell?_of_block (Below.heap_setCell W' ⟨g, 7, none⟩ v _ (by show w.heap.size ≠ g; omega))).trans h1, fun i hi => (World.cell?_of_block (Below.heap_setCell W' ⟨g, 7, none⟩ v _ (by rw [block_add, block_add]; show ad.block ≠ g; omega))).trans (h2 i hi)⟩
        clear hcell hok hb hf hfi hfl hbl
        go_wp2
        refine wp_region_held_drew (S := fun w' => w'.cell? ⟨w.heap.size, 39, none⟩ = some (.slice (some ad) ni ci) ∧ ∀ i, i < 32 → w'.cell? ((ad.add (32 * k)).add i) = some (bv (f i))) (by kernel_rfl) ?_ (fun hHeld => ?_)
        · exact ALL2.out _ q
        refine wpAnyH_take (i := 0) (oi := ⟨some 41, _, _, _, _, _⟩) (v := ?_) rfl (by kernel_rfl) (by kernel_rfl) (by kernel_rfl) (fun _ _ _ h => h) (Or.inl ⟨by rfl, ?_⟩) (by assumption) ?_
        rotate_left
        · intro w hSw; (try dsimp only at hSw); go_simp; try (with_reducible rfl)
        rotate_left 0
        try simp only [Act.put, List.setIfInBounds_toArray, List.set_cons_zero, List.set_cons_succ]
        refine wpAnyH_take (i := 1) (oi := ⟨some 42, _, _, _, _, _⟩) (v := ?_) rfl (by kernel_rfl) (by kernel_rfl) (by kernel_rfl) (fun _ _ _ h => h) (Or.inl ⟨by rfl, ?_⟩) (by assumption) ?_
        rotate_left
        · intro w hSw; (try dsimp only at hSw); go_simp; try (with_reducible rfl)
        rotate_left 0
        try simp only [Act.put, List.setIfInBounds_toArray, List.set_cons_zero, List.set_cons_succ]
        refine wpAnyH_take (i := 3) (oi := ⟨some 44, _, _, _, _, _⟩) (v := ?_) rfl (by kernel_rfl) (by kernel_rfl) (by kernel_rfl) (fun _ _ _ h => h) (Or.inl ⟨by rfl, ?_⟩) (by assumption) ?_
        rotate_left
        · intro w hSw; (try dsimp only at hSw); go_simp; try (with_reducible rfl)
        rotate_left 0
        try simp only [Act.put, List.setIfInBounds_toArray, List.set_cons_zero, List.set_cons_succ]
        refine wpAnyH_take (i := 4) (oi := ⟨some 45, _, _, _, _, _⟩) (v := ?_) rfl (by kernel_rfl) (by kernel_rfl) (by kernel_rfl) (fun _ _ _ h => h) (Or.inl ⟨by rfl, ?_⟩) (by assumption) ?_
        rotate_left
        · intro w hSw; (try dsimp only at hSw); go_simp; try (with_reducible rfl)
        rotate_left 0
        try simp only [Act.put, List.setIfInBounds_toArray, List.set_cons_zero, List.set_cons_succ]
        refine wpAnyH_take (i := 5) (oi := ⟨some 46, _, _, _, _, _⟩) (v := ?_) rfl (by kernel_rfl) (by kernel_rfl) (by kernel_rfl) (fun _ _ _ h => h) (Or.inl ⟨by rfl, ?_⟩) (by assumption) ?_
        rotate_left
        · intro w hSw; (try dsimp only at hSw); go_simp; try (with_reducible rfl)
        rotate_left 0
        try simp only [Act.put, List.setIfInBounds_toArray, List.set_cons_zero, List.set_cons_succ]
        refine wpAnyH_take (i := 6) (oi := ⟨some 47, _, _, _, _, _⟩) (v := ?_) rfl (by kernel_rfl) (by kernel_rfl) (by kernel_rfl) (fun _ _ _ h => h) (Or.inl ⟨by rfl, ?_⟩) (by assumption) ?_
        rotate_left
        · intro w hSw; (try dsimp only at hSw); go_simp; try (with_reducible rfl)
        rotate_left 0
        try simp only [Act.put, List.setIfInBounds_toArray, List.set_cons_zero, List.set_cons_succ]
        refine wpAnyH_take (i := 7) (oi := ⟨some 48, _, _, _, _, _⟩) (v := .agg (arr 32 fun i => bv (f i))) rfl (by kernel_rfl) (by kernel_rfl) (by kernel_rfl) (fun _ _ _ h => h) (yieldsIf_load_at (by rfl) _ _ rfl (ad.add (32 * k)) (by first | rfl | (rw [HM.out]; rfl)) 32 _ 5 (fun _ hS => hS.2) Try.underlying31 (by kernel_rfl)) (by assumption) ?_
        try simp only [Act.put, List.setIfInBounds_toArray, List.set_cons_zero, List.set_cons_succ]
        refine wpAnyH_ready (rs := [2, 8]) (by kernel_rfl) (by simp) ?_
        refine AllReadyH.cons (o := ⟨some 43, _, _, _, _, _⟩) rfl (fun K hK => ?_) (AllReadyH.cons (o := ⟨some 49, _, _, _, _, _⟩) rfl (fun K hK => ?_) AllReadyH.nil)
        · have h7 := (CG.out _ q).1
          go_simp
          try dsimp only
          refine hK.out _ _ ?_ (fun hHeld => ?_)
          · exact ALL2.out _ q
          clear hK K
          try simp only [Act.put, List.setIfInBounds_toArray, List.set_cons_zero, List.set_cons_succ]
          clear h7
          refine wpAnyH_ready (rs := [8]) (by kernel_rfl) (by simp) ?_
          refine AllReadyH.cons (o := ⟨some 49, _, _, _, _, _⟩) rfl (fun K hK => ?_) AllReadyH.nil
          go_simp
          refine (TX.out _).mono ?_
          rintro e w1 ⟨rfl, hb1⟩
          have q1 := Kp.call q hb1
          try dsimp only
          refine hK.out _ _ ?_ (fun hHeld => ?_)
          · exact ALL2.out _ q1
          clear hK K
          try simp only [Act.put, List.setIfInBounds_toArray, List.set_cons_zero, List.set_cons_succ]
          refine wpAnyH_take (i := 9) (oi := ⟨some 50, _, _, _, _, _⟩) (v := ?_) rfl (by kernel_rfl) (by kernel_rfl) (by kernel_rfl) (fun _ _ _ h => h) (Or.inl ⟨by rfl, ?_⟩) (by assumption) ?_
          rotate_left
          · intro w hSw; (try dsimp only at hSw); go_simp; try (with_reducible rfl)
          rotate_left 0
          try simp only [Act.put, List.setIfInBounds_toArray, List.set_cons_zero, List.set_cons_succ]
          refine wpAnyH_take (i := 10) (oi := ⟨some 51, _, _, _, _, _⟩) (v := ?_) rfl (by kernel_rfl) (by kernel_rfl) (by kernel_rfl) (fun _ _ _ h => h) (Or.inl ⟨by rfl, ?_⟩) (by assumption) ?_
          rotate_left
          · intro w hSw; (try dsimp only at hSw); go_simp; try (with_reducible rfl)
          rotate_left 0
          try simp only [Act.put, List.setIfInBounds_toArray, List.set_cons_zero, List.set_cons_succ]
          refine wpAnyH_ready (rs := [11]) (by kernel_rfl) (by simp) ?_
          refine AllReadyH.cons (o := ⟨none, _, _, _, _, _⟩) rfl (fun K hK => ?_) AllReadyH.nil
          obtain ⟨h7, f7⟩ := CG.out _ q1
          go_simp
          refine hK.out _ _ ?_ (fun hHeld => ?_)
          · exact ALL3.out _ q1 _
          clear hK K h7 f7
          try simp only [Act.put, List.setIfInBounds_toArray, List.set_cons_zero, List.set_cons_succ]
          refine wpAnyH_done (by kernel_rfl) ?_ _
          have Q1 := Lib.hid q1
          clear hHeld q q1 hb1 ALL2 ALL3 CG
          go_wp2
          go_roundw
          case rel => exact ⟨k + 1, by omega, by go_num, by rw [HST.out, ← strF_set7 s0 s1 s2 s3 s4 _ r.data b]; exact (HSK.out.below Q1.out HSK.out.lt).store 7 _, (HWK.out.trans (Q1.out.mono HWK.out.size)).setCell (by have := HWA.out; simp; omega) _⟩
          case measure => simp [intOf]; omega
        · go_simp
          refine (TX.out _).mono ?_
          rintro e w1 ⟨rfl, hb1⟩
          have q1 := Kp.call q hb1
          try dsimp only
          refine hK.out _ _ ?_ (fun hHeld => ?_)
          · exact ALL2.out _ q1
          clear hK K
          try simp only [Act.put, List.setIfInBounds_toArray, List.set_cons_zero, List.set_cons_succ]
          refine wpAnyH_ready (rs := [2]) (by kernel_rfl) (by simp) ?_
          refine AllReadyH.cons (o := ⟨some 43, _, _, _, _, _⟩) rfl (fun K hK => ?_) AllReadyH.nil
          have h7 := (CG.out _ q1).1
          go_simp
          try dsimp only
          refine hK.out _ _ ?_ (fun hHeld => ?_)
          · exact ALL2.out _ q1
          clear hK K
          try simp only [Act.put, List.setIfInBounds_toArray, List.set_cons_zero, List.set_cons_succ]
          clear h7
          refine wpAnyH_take (i := 9) (oi := ⟨some 50, _, _, _, _, _⟩) (v := ?_) rfl (by kernel_rfl) (by kernel_rfl) (by kernel_rfl) (fun _ _ _ h => h) (Or.inl ⟨by rfl, ?_⟩) (by assumption) ?_
          rotate_left
          · intro w hSw; (try dsimp only at hSw); go_simp; try (with_reducible rfl)
          rotate_left 0
          try simp only [Act.put, List.setIfInBounds_toArray, List.set_cons_zero, List.set_cons_succ]
          refine wpAnyH_take (i := 10) (oi := ⟨some 51, _, _, _, _, _⟩) (v := ?_) rfl (by kernel_rfl) (by kernel_rfl) (by kernel_rfl) (fun _ _ _ h => h) (Or.inl ⟨by rfl, ?_⟩) (by assumption) ?_
          rotate_left
          · intro w hSw; (try dsimp only at hSw); go_simp; try (with_reducible rfl)
          rotate_left 0
          try simp only [Act.put, List.setIfInBounds_toArray, List.set_cons_zero, List.set_cons_succ]
          refine wpAnyH_ready (rs := [11]) (by kernel_rfl) (by simp) ?_
          refine AllReadyH.cons (o := ⟨none, _, _, _, _, _⟩) rfl (fun K hK => ?_) AllReadyH.nil
          obtain ⟨h7, f7⟩ := CG.out _ q1
          go_simp
          refine hK.out _ _ ?_ (fun hHeld => ?_)
          · exact ALL3.out _ q1 _
          clear hK K h7 f7
          try simp only [Act.put, List.setIfInBounds_toArray, List.set_cons_zero, List.set_cons_succ]
          refine wpAnyH_done (by kernel_rfl) ?_ _
          have Q1 := Lib.hid q1
          clear hHeld q q1 hb1 ALL2 ALL3 CG
          go_wp2
          go_roundw
          case rel => exact ⟨k + 1, by omega, by go_num, by rw [HST.out, ← strF_set7 s0 s1 s2 s3 s4 _ r.data b]; exact (HSK.out.below Q1.out HSK.out.lt).store 7 _, (HWK.out.trans (Q1.out.mono HWK.out.size)).setCell (by have := HWA.out; simp; omega) _⟩
          case measure => simp [intOf]; omega
      · obtain rfl : k = ni := by omega
        have e : r.ids.take k = r.ids := by rw [← HN.out.2.1]; simp
        rw [e] at HSK
        clear e
        go_wp2
        go_loopw [5] (fun i wr => ∃ k : Nat, k ≤ nl ∧ i = .int .i64 (k : Int) ∧ Blk wr g 9 (arr 9 (strF s0 s1 s2 s3 s4 (idPart (id32 r.id)) r.data (r.ids.map id32).flatten ((r.list.take k).map run).flatten)) ∧ Below (w.alloc (.cells M 36)).heap.size (w.alloc (.cells M 36)) wr) (fun i _ => nl - (intOf i).toNat)
        case atStart => exact ⟨0, by omega, rfl, HSK.out, HWK.out⟩
        case round =>
          clear c39 HSK HWK
          obtain ⟨k, hk, rfl, hSk, hWk⟩ := hrel
          have HSK := Lib.hid hSk
          have HWK := Lib.hid hWk
          have c40 := CELL.out wr hWk _ _ C40.out
          clear hSk hWk
          by_cases hlt : k < nl
          · obtain ⟨ad, v, rfl, hok, hcell, hread⟩ := (HRL.out.kept (W' := wr) fun a x ha h => ((HB.out.trans (HWK.out.mono (by simp))).cell (p := a) ha).trans h) k (by rw [HN.out.2.2]; exact hlt)
            have hkn : (k : Int) < (nl : Int) := by omega
            have HST := Lib.hid (take_runs r.list k (by rw [HN.out.2.2]; exact hlt))
            have hbl := take_runs_length r.list k
            rw [HN.out.2.2] at hbl
            have hpl := sum_le r.list (r.list.getD k []) (by rw [List.getD_eq_getElem?_getD, List.getElem?_eq_getElem (by rw [HN.out.2.2]; exact hlt)]; simp)
            obtain ⟨p, hp⟩ : ∃ p, r.list.getD k [] = p := ⟨_, rfl⟩
            rw [hp] at hread HST hpl
            obtain ⟨A0, c0', rfl, hc0, hn0, hcs0⟩ := id hread
            obtain ⟨m, hm⟩ : ∃ m, p.length = m := ⟨_, rfl⟩
            rw [hm] at hread hcell
            obtain ⟨b, hb⟩ : ∃ b, ((r.list.take k).map run).flatten = b := ⟨_, rfl⟩
            rw [hb] at HST hbl HSK
            have TX := Lib.hid fun W => refRun_any p (by omega) W
            have hfl : (run p).length = 3 + m := by rw [run, List.length_append, hm]; rfl
            obtain ⟨fi, hfi⟩ : ∃ fi, run p = fi := ⟨_, rfl⟩
            rw [hfi] at HST hfl TX
            have hcat : (({ data := b.toArray } : ByteArray) ++ { data := fi.toArray }) = ⟨(b ++ fi).toArray⟩ := ba_app _ _
            have hno : ¬ (9223372036854775807 < b.length + fi.length) := by omega
            have q : Below wr.heap.size wr wr.drew := (Below.refl _ _).drew
            have CG : Hid (∀ W', Below wr.heap.size wr W' → W'.cell? ⟨g, 8, none⟩ = some (.string ⟨b.toArray⟩) ∧ W'.frozen? ⟨g, 8, none⟩ = false) := Lib.hid fun W' hb' => by
              have := HSK.out.below hb' HSK.out.lt
              exact ⟨by rw [this.cell, arr_get]; rfl, this.frozen 8⟩
            have hkb : w.heap.size < wr.heap.size := by have := HWK.out.size; simp at this; omega
            have ALL2 : Hid (∀ W', Below wr.heap.size wr W' → RdB W' (fun b => b < w.heap.size) (.slice A0 m c0') p ∧ W'.cell? ⟨w.heap.size, 40, none⟩ = some (.slice (some ad) nl cl) ∧ W'.cell? (ad.add k) = some (.slice A0 m c0')) := Lib.hid fun W' hb' =>
              ⟨hread.kept fun a x ha h => (hb'.cell (p := a) (Nat.lt_trans ha hkb)).trans h, (hb'.cell (p := ⟨w.heap.size, 40, none⟩) hkb).trans c40, (hb'.cell (p := ad.add k) (by rw [block_add]; exact Nat.lt_trans hok hkb)).trans hcell⟩
            have ALL3 : Hid (∀ W', Below wr.heap.size wr W' → ∀ v, RdB (W'.setCell ⟨g, 8, none⟩ v) (fun b => b < w.heap.size) (.slice A0 m c0') p ∧ (W'.setCell ⟨g, 8, none⟩ v).cell? ⟨w.heap.size, 40, none⟩ = some (.slice (some ad) nl cl) ∧ (W'.setCell ⟨g, 8, none⟩ v).cell? (ad.add k) = some (.slice A0 m c0')) := Lib.hid fun W' hb' v => by
              obtain ⟨h1, h2, h3⟩ := ALL2.out W' hb'
              have hg := HWA.out
              refine ⟨h1.kept fun a x ha h => (World.cell?_of_block (Below.heap_setCell W' ⟨g, 8, none⟩ v _ (by show a.block ≠ g; have : a.block < w.heap.size := ha; omega))).trans h, (World.cell?_of_block (Below.heap_setCell W' ⟨g, 8, none⟩ v _ (by show w.heap.size ≠ g; omega))).trans h2, (World.cell?_of_block (Below.heap_setCell W' ⟨g, 8, none⟩ v _ (by rw [block_add]; show ad.block ≠ g; omega))).trans h3⟩
            clear hcell hok hb hp hfi hfl hbl hread hc0 hn0 hcs0 hpl hm
            go_wp2
            refine wp_region_held_drew (S := fun w' => RdB w' (fun b => b < w.heap.size) (.slice A0 m c0') p ∧ w'.cell? ⟨w.heap.size, 40, none⟩ = some (.slice (some ad) nl cl) ∧ w'.cell? (ad.add k) = some (.slice A0 m c0')) (by kernel_rfl) ?_ (fun hHeld => ?_)
            · exact ALL2.out _ q
            refine wpAnyH_take (i := 0) (oi := ⟨some 59, _, _, _, _, _⟩) (v := ?_) rfl (by kernel_rfl) (by kernel_rfl) (by kernel_rfl) (fun _ _ _ h => h) (Or.inl ⟨by rfl, ?_⟩) (by assumption) ?_
            rotate_left
            · intro w hSw; (try dsimp only at hSw); go_simp; try (with_reducible rfl)
            rotate_left 0
            try simp only [Act.put, List.setIfInBounds_toArray, List.set_cons_zero, List.set_cons_succ]
            refine wpAnyH_take (i := 1) (oi := ⟨some 60, _, _, _, _, _⟩) (v := ?_) rfl (by kernel_rfl) (by kernel_rfl) (by kernel_rfl) (fun _ _ _ h => h) (Or.inl ⟨by rfl, ?_⟩) (by assumption) ?_
            rotate_left
            · intro w hSw; (try dsimp only at hSw); go_simp; try (with_reducible rfl)
            rotate_left 0
            try simp only [Act.put, List.setIfInBounds_toArray, List.set_cons_zero, List.set_cons_succ]
            refine wpAnyH_take (i := 3) (oi := ⟨some 62, _, _, _, _, _⟩) (v := ?_) rfl (by kernel_rfl) (by kernel_rfl) (by kernel_rfl) (fun _ _ _ h => h) (Or.inl ⟨by rfl, ?_⟩) (by assumption) ?_
            rotate_left
            · intro w hSw; (try dsimp only at hSw); go_simp; try (with_reducible rfl)
            rotate_left 0
            try simp only [Act.put, List.setIfInBounds_toArray, List.set_cons_zero, List.set_cons_succ]
            refine wpAnyH_take (i := 4) (oi := ⟨some 63, _, _, _, _, _⟩) (v := ?_) rfl (by kernel_rfl) (by kernel_rfl) (by kernel_rfl) (fun _ _ _ h => h) (Or.inl ⟨by rfl, ?_⟩) (by assumption) ?_
            rotate_left
            · intro w hSw; (try dsimp only at hSw); go_simp; try (with_reducible rfl)
            rotate_left 0
            try simp only [Act.put, List.setIfInBounds_toArray, List.set_cons_zero, List.set_cons_succ]
            refine wpAnyH_take (i := 5) (oi := ⟨some 64, _, _, _, _, _⟩) (v := ?_) rfl (by kernel_rfl) (by kernel_rfl) (by kernel_rfl) (fun _ _ _ h => h) (Or.inl ⟨by rfl, ?_⟩) (by assumption) ?_
            rotate_left
            · intro w hSw; (try dsimp only at hSw); go_simp; try (with_reducible rfl)
            rotate_left 0
            try simp only [Act.put, List.setIfInBounds_toArray, List.set_cons_zero, List.set_cons_succ]
            refine wpAnyH_take (i := 6) (oi := ⟨some 65, _, _, _, _, _⟩) (v := ?_) rfl (by kernel_rfl) (by kernel_rfl) (by kernel_rfl) (fun _ _ _ h => h) (Or.inl ⟨by rfl, ?_⟩) (by assumption) ?_
            rotate_left
            · intro w hSw; (try dsimp only at hSw); go_simp; try (with_reducible rfl)
            rotate_left 0
            try simp only [Act.put, List.setIfInBounds_toArray, List.set_cons_zero, List.set_cons_succ]
            refine wpAnyH_take (i := 7) (oi := ⟨some 66, _, _, _, _, _⟩) (v := ?_) rfl (by kernel_rfl) (by kernel_rfl) (by kernel_rfl) (fun _ _ _ h => h) (Or.inl ⟨by rfl, ?_⟩) (by assumption) ?_
            rotate_left
            · intro w hSw; (try dsimp only at hSw); go_simp; try (with_reducible rfl)
            rotate_left 0
            try simp only [Act.put, List.setIfInBounds_toArray, List.set_cons_zero, List.set_cons_succ]
            refine wpAnyH_take (i := 8) (oi := ⟨some 67, _, _, _, _, _⟩) (v := .string ⟨p.toArray⟩) rfl (by kernel_rfl) (by kernel_rfl) (by kernel_rfl) (fun _ _ _ h => h) (Or.inl ⟨by rfl, ?_⟩) (by assumption) ?_
            · intro w' hSw; have hcv := str_rd (hSw.1); (try dsimp only at hSw); go_simp
            try simp only [Act.put, List.setIfInBounds_toArray, List.set_cons_zero, List.set_cons_succ]
            refine wpAnyH_ready (rs := [2, 9]) (by kernel_rfl) (by simp) ?_
            refine AllReadyH.cons (o := ⟨some 61, _, _, _, _, _⟩) rfl (fun K hK => ?_) (AllReadyH.cons (o := ⟨some 68, _, _, _, _, _⟩) rfl (fun K hK => ?_) AllReadyH.nil)
            · have h7 := (CG.out _ q).1
              go_simp
              try dsimp only
              refine hK.out _ _ ?_ (fun hHeld => ?_)
              · exact ALL2.out _ q
              clear hK K
              try simp only [Act.put, List.setIfInBounds_toArray, List.set_cons_zero, List.set_cons_succ]
              clear h7
              refine wpAnyH_ready (rs := [9]) (by kernel_rfl) (by simp) ?_
              refine AllReadyH.cons (o := ⟨some 68, _, _, _, _, _⟩) rfl (fun K hK => ?_) AllReadyH.nil
              go_simp
              refine (TX.out _).mono ?_
              rintro e w1 ⟨rfl, hb1⟩
              have q1 := Kp.call q hb1
              try dsimp only
              refine hK.out _ _ ?_ (fun hHeld => ?_)
              · exact ALL2.out _ q1
              clear hK K
              try simp only [Act.put, List.setIfInBounds_toArray, List.set_cons_zero, List.set_cons_succ]
              refine wpAnyH_take (i := 10) (oi := ⟨some 69, _, _, _, _, _⟩) (v := ?_) rfl (by kernel_rfl) (by kernel_rfl) (by kernel_rfl) (fun _ _ _ h => h) (Or.inl ⟨by rfl, ?_⟩) (by assumption) ?_
              rotate_left
              · intro w hSw; (try dsimp only at hSw); go_simp; try (with_reducible rfl)
              rotate_left 0
              try simp only [Act.put, List.setIfInBounds_toArray, List.set_cons_zero, List.set_cons_succ]
              refine wpAnyH_take (i := 11) (oi := ⟨some 70, _, _, _, _, _⟩) (v := ?_) rfl (by kernel_rfl) (by kernel_rfl) (by kernel_rfl) (fun _ _ _ h => h) (Or.inl ⟨by rfl, ?_⟩) (by assumption) ?_
              rotate_left
              · intro w hSw; (try dsimp only at hSw); go_simp; try (with_reducible rfl)
              rotate_left 0
              try simp only [Act.put, List.setIfInBounds_toArray, List.set_cons_zero, List.set_cons_succ]
              refine wpAnyH_ready (rs := [12]) (by kernel_rfl) (by simp) ?_
              refine AllReadyH.cons (o := ⟨none, _, _, _, _, _⟩) rfl (fun K hK => ?_) AllReadyH.nil
              obtain ⟨h7, f7⟩ := CG.out _ q1
              go_simp
              refine hK.out _ _ ?_ (fun hHeld => ?_)
              · exact ALL3.out _ q1 _
              clear hK K h7 f7
              try simp only [Act.put, List.setIfInBounds_toArray, List.set_cons_zero, List.set_cons_succ]
              refine wpAnyH_done (by kernel_rfl) ?_ _
              have Q1 := Lib.hid q1
              clear hHeld q q1 hb1 ALL2 ALL3 CG
              go_wp2
              go_roundw
              case rel => exact ⟨k + 1, by omega, by go_num, by rw [HST.out, ← strF_set8 s0 s1 s2 s3 s4 _ r.data _ b]; exact (HSK.out.below Q1.out HSK.out.lt).store 8 _, (HWK.out.trans (Q1.out.mono HWK.out.size)).setCell (by have := HWA.out; simp; omega) _⟩
              case measure => simp [intOf]; omega
            · go_simp
              refine (TX.out _).mono ?_
              rintro e w1 ⟨rfl, hb1⟩
              have q1 := Kp.call q hb1
              try dsimp only
              refine hK.out _ _ ?_ (fun hHeld => ?_)
              · exact ALL2.out _ q1
              clear hK K
              try simp only [Act.put, List.setIfInBounds_toArray, List.set_cons_zero, List.set_cons_succ]
              refine wpAnyH_ready (rs := [2]) (by kernel_rfl) (by simp) ?_
              refine AllReadyH.cons (o := ⟨some 61, _, _, _, _, _⟩) rfl (fun K hK => ?_) AllReadyH.nil
              have h7 := (CG.out _ q1).1
              go_simp
              try dsimp only
              refine hK.out _ _ ?_ (fun hHeld => ?_)
              · exact ALL2.out _ q1
              clear hK K
              try simp only [Act.put, List.setIfInBounds_toArray, List.set_cons_zero, List.set_cons_succ]
              clear h7
              refine wpAnyH_take (i := 10) (oi := ⟨some 69, _, _, _, _, _⟩) (v := ?_) rfl (by kernel_rfl) (by kernel_rfl) (by kernel_rfl) (fun _ _ _ h => h) (Or.inl ⟨by rfl, ?_⟩) (by assumption) ?_
              rotate_left
              · intro w hSw; (try dsimp only at hSw); go_simp; try (with_reducible rfl)
              rotate_left 0
              try simp only [Act.put, List.setIfInBounds_toArray, List.set_cons_zero, List.set_cons_succ]
              refine wpAnyH_take (i := 11) (oi := ⟨some 70, _, _, _, _, _⟩) (v := ?_) rfl (by kernel_rfl) (by kernel_rfl) (by kernel_rfl) (fun _ _ _ h => h) (Or.inl ⟨by rfl, ?_⟩) (by assumption) ?_
              rotate_left
              · intro w hSw; (try dsimp only at hSw); go_simp; try (with_reducible rfl)
              rotate_left 0
              try simp only [Act.put, List.setIfInBounds_toArray, List.set_cons_zero, List.set_cons_succ]
              refine wpAnyH_ready (rs := [12]) (by kernel_rfl) (by simp) ?_
              refine AllReadyH.cons (o := ⟨none, _, _, _, _, _⟩) rfl (fun K hK => ?_) AllReadyH.nil
              obtain ⟨h7, f7⟩ := CG.out _ q1
              go_simp
              refine hK.out _ _ ?_ (fun hHeld => ?_)
              · exact ALL3.out _ q1 _
              clear hK K h7 f7
              try simp only [Act.put, List.setIfInBounds_toArray, List.set_cons_zero, List.set_cons_succ]
              refine wpAnyH_done (by kernel_rfl) ?_ _
              have Q1 := Lib.hid q1
              clear hHeld q q1 hb1 ALL2 ALL3 CG
              go_wp2
              go_roundw
              case rel => exact ⟨k + 1, by omega, by go_num, by rw [HST.out, ← strF_set8 s0 s1 s2 s3 s4 _ r.data _ b]; exact (HSK.out.below Q1.out HSK.out.lt).store 8 _, (HWK.out.trans (Q1.out.mono HWK.out.size)).setCell (by have := HWA.out; simp; omega) _⟩
              case measure => simp [intOf]; omega
          · obtain rfl : k = nl := by omega
            have e : r.list.take k = r.list := by rw [← HN.out.2.2]; simp
            rw [e] at HSK
            clear e
            go_wp2
            go_ret
            exact ⟨g, rfl, by have := HWA.out; omega, HSK.out.same (arr_congr fun j _ => HPARTS.out j), HB.out.trans (HWK.out.mono (by simp))⟩
end Go.Proofs.Ytekakelkjnhehaa
