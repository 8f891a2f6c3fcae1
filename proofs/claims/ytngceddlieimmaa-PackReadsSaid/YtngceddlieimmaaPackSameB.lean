/-
  The reference's Same: unlike by one of the other five fields, or by a count: false.
-/
import Derived.Test.YtngceddlieimmaaPackSameH
namespace Go.Proofs.Ytngceddlieimmaa
open Go Go.RowKit PackMath

set_option maxRecDepth 100000 in
set_option maxHeartbeats 4000000 in
theorem same_no5 (r r' : Raw) (d i l d' i' l' : Value) (w : World) (hr : RdR w (fun b => b < w.heap.size) r d i l) (hr' : RdR w (fun b => b < w.heap.size) r' d' i' l') (h0 : r.kind = r'.kind) (h1 : r.who = r'.who) (h2 : r.height = r'.height) (h3 : r.round = r'.round) (h4 : r.valid = r'.valid) (hne : ¬ r.num = r'.num) :
    Calls Try.prog 15 #[.agg (msgA r d i l), .agg (msgA r' d' i' l')] w fun e w' => e = .returned (.bool false) ∧ Below w.heap.size w w' := by
  obtain ⟨rk, rwh, rhe, rro, rva, rnu, rid, rda, rids, rls⟩ := r'
  simp only at h0 h1 h2 h3 h4 hne
  subst h0 h1 h2 h3 h4
  have b1 : Blk ((w.alloc (.cells (msgA r d i l) 28)).alloc (.cells (msgA ⟨r.kind, r.who, r.height, r.round, r.valid, rnu, rid, rda, rids, rls⟩ d' i' l') 28)) w.heap.size 28 (msgA r d i l) := (Blk.new _ _ _).alloc _
  have b2 : Blk ((w.alloc (.cells (msgA r d i l) 28)).alloc (.cells (msgA ⟨r.kind, r.who, r.height, r.round, r.valid, rnu, rid, rda, rids, rls⟩ d' i' l') 28)) (w.heap.size + 1) 28 (msgA ⟨r.kind, r.who, r.height, r.round, r.valid, rnu, rid, rda, rids, rls⟩ d' i' l') := Blk.newAt _ _ (by simp) rfl
  have hb : Below w.heap.size w ((w.alloc (.cells (msgA r d i l) 28)).alloc (.cells (msgA ⟨r.kind, r.who, r.height, r.round, r.valid, rnu, rid, rda, rids, rls⟩ d' i' l') 28)) := ((Below.refl _ _).alloc (Nat.le_refl _) _).alloc (by simp) _
  obtain ⟨x0, x1, x2, x3, x4, x5, x6, x7, x8⟩ := msg_cells b1
  obtain ⟨y0, y1, y2, y3, y4, y5, y6, y7, y8⟩ := msg_cells b2
  have hr1 := hr.below hb
  have hr1' := hr'.below hb
  have HB := Lib.hid hb
  generalize hM : msgA r d i l = M at *
  generalize hM' : msgA ⟨r.kind, r.who, r.height, r.round, r.valid, rnu, rid, rda, rids, rls⟩ d' i' l' = M' at *
  clear hM hM' b1 b2
  obtain ⟨⟨Ad, cd, rfl, -⟩, ⟨Ai, ci, rfl, -⟩, ⟨Al, cl, rfl, -⟩⟩ := id hr1
  obtain ⟨⟨Ad', cd', rfl, -⟩, ⟨Ai', ci', rfl, -⟩, ⟨Al', cl', rfl, -⟩⟩ := id hr1'
  simp only at hr1' x6 x7 x8 y6 y7 y8
  have v1 := str_rd hr1.data
  have v2 := str_rd hr1'.data
  simp only at v1 v2
  have hne2 : decide (r.num = rnu) = false := decide_eq_false hne
  have hne3 : (r.num == rnu) = false := by simpa using hne
  obtain ⟨nd, hnd⟩ : ∃ nd, r.data.length = nd := ⟨_, rfl⟩
  obtain ⟨nd', hnd'⟩ : ∃ nd, rda.length = nd := ⟨_, rfl⟩
  rw [hnd] at x6 v1
  rw [hnd'] at y6 v2
  obtain ⟨ni, hni⟩ : ∃ ni, r.ids.length = ni := ⟨_, rfl⟩
  obtain ⟨nl, hnl⟩ : ∃ nl, r.list.length = nl := ⟨_, rfl⟩
  rw [hni] at x7
  rw [hnl] at x8
  obtain ⟨ni', hni'⟩ : ∃ ni, rids.length = ni := ⟨_, rfl⟩
  rw [hni'] at y7
  obtain ⟨nl', hnl'⟩ : ∃ nl, rls.length = nl := ⟨_, rfl⟩
  rw [hnl'] at y8
  clear hb hr hr' hr1 hr1' hni hnl hnd hnd' hni' hnl'
  go_enter Try.func15, Try.ntmps15
  repeat (first
    | go_values | go_skip | go_guarded | go_step | go_upon)
  go_ret
  exact ⟨rfl, HB.out⟩
set_option maxRecDepth 100000 in
set_option maxHeartbeats 4000000 in
theorem same_no6 (r r' : Raw) (d i l d' i' l' : Value) (w : World) (hr : RdR w (fun b => b < w.heap.size) r d i l) (hr' : RdR w (fun b => b < w.heap.size) r' d' i' l') (h0 : r.kind = r'.kind) (h1 : r.who = r'.who) (h2 : r.height = r'.height) (h3 : r.round = r'.round) (h4 : r.valid = r'.valid) (h5 : r.num = r'.num) (hne : ¬ id32 r.id = id32 r'.id) :
    Calls Try.prog 15 #[.agg (msgA r d i l), .agg (msgA r' d' i' l')] w fun e w' => e = .returned (.bool false) ∧ Below w.heap.size w w' := by
  obtain ⟨rk, rwh, rhe, rro, rva, rnu, rid, rda, rids, rls⟩ := r'
  simp only at h0 h1 h2 h3 h4 h5 hne
  subst h0 h1 h2 h3 h4 h5
  have b1 : Blk ((w.alloc (.cells (msgA r d i l) 28)).alloc (.cells (msgA ⟨r.kind, r.who, r.height, r.round, r.valid, r.num, rid, rda, rids, rls⟩ d' i' l') 28)) w.heap.size 28 (msgA r d i l) := (Blk.new _ _ _).alloc _
  have b2 : Blk ((w.alloc (.cells (msgA r d i l) 28)).alloc (.cells (msgA ⟨r.kind, r.who, r.height, r.round, r.valid, r.num, rid, rda, rids, rls⟩ d' i' l') 28)) (w.heap.size + 1) 28 (msgA ⟨r.kind, r.who, r.height, r.round, r.valid, r.num, rid, rda, rids, rls⟩ d' i' l') := Blk.newAt _ _ (by simp) rfl
  have hb : Below w.heap.size w ((w.alloc (.cells (msgA r d i l) 28)).alloc (.cells (msgA ⟨r.kind, r.who, r.height, r.round, r.valid, r.num, rid, rda, rids, rls⟩ d' i' l') 28)) := ((Below.refl _ _).alloc (Nat.le_refl _) _).alloc (by simp) _
  obtain ⟨x0, x1, x2, x3, x4, x5, x6, x7, x8⟩ := msg_cells b1
  obtain ⟨y0, y1, y2, y3, y4, y5, y6, y7, y8⟩ := msg_cells b2
  have g1 := id_range b1
  have g2 := id_range b2
  obtain ⟨cid, hcid⟩ : ∃ cid, (id32 r.id).map Extern.Stop.cell = cid := ⟨_, rfl⟩
  have hcl : cid.length = 32 := by rw [← hcid]; simp [id32]
  obtain ⟨cie, hcie⟩ : ∃ cie, (id32 rid).map Extern.Stop.cell = cie := ⟨_, rfl⟩
  have hcl' : cie.length = 32 := by rw [← hcie]; simp [id32]
  have hnq : ∀ w', (binOp .neq 23 (.agg cid.toArray) (.agg cie.toArray)).run Try.prog w' = .ok (.bool true) w' := fun w' => by
    have := neq_id r.id rid w'
    rw [arr_id32, arr_id32, hcid, hcie] at this
    rw [this, show (id32 r.id == id32 rid) = false from by simpa using hne]
    rfl
  simp only at g2
  rw [hcie] at g2
  rw [hcid] at g1
  have HCL' := Lib.hid hcl'
  have HNQ := Lib.hid hnq
  clear hnq
  have G1 := Lib.hid g1
  have G2 := Lib.hid g2
  have HCL := Lib.hid hcl
  have hr1 := hr.below hb
  have hr1' := hr'.below hb
  have HB := Lib.hid hb
  generalize hM : msgA r d i l = M at *
  generalize hM' : msgA ⟨r.kind, r.who, r.height, r.round, r.valid, r.num, rid, rda, rids, rls⟩ d' i' l' = M' at *
  clear hM hM' b1 b2
  obtain ⟨⟨Ad, cd, rfl, -⟩, ⟨Ai, ci, rfl, -⟩, ⟨Al, cl, rfl, -⟩⟩ := id hr1
  obtain ⟨⟨Ad', cd', rfl, -⟩, ⟨Ai', ci', rfl, -⟩, ⟨Al', cl', rfl, -⟩⟩ := id hr1'
  simp only at hr1' x6 x7 x8 y6 y7 y8
  have v1 := str_rd hr1.data
  have v2 := str_rd hr1'.data
  simp only at v1 v2
  obtain ⟨nd, hnd⟩ : ∃ nd, r.data.length = nd := ⟨_, rfl⟩
  obtain ⟨nd', hnd'⟩ : ∃ nd, rda.length = nd := ⟨_, rfl⟩
  rw [hnd] at x6 v1
  rw [hnd'] at y6 v2
  obtain ⟨ni, hni⟩ : ∃ ni, r.ids.length = ni := ⟨_, rfl⟩
  obtain ⟨nl, hnl⟩ : ∃ nl, r.list.length = nl := ⟨_, rfl⟩
  rw [hni] at x7
  rw [hnl] at x8
  obtain ⟨ni', hni'⟩ : ∃ ni, rids.length = ni := ⟨_, rfl⟩
  rw [hni'] at y7
  obtain ⟨nl', hnl'⟩ : ∃ nl, rls.length = nl := ⟨_, rfl⟩
  rw [hnl'] at y8
  clear hb hr hr' hr1 hr1' hni hnl hnd hnd' hni' hnl' hcid g1 g2 hcl hcie hcl' hne
  go_enter Try.func15, Try.ntmps15
  repeat (first
    | (guard_target = wpList _ _ _ (Oper.mk _ (.load 23 _) _ _ _ _ :: _) _ _; refine wpList_load_midG (by rfl) 23 _ rfl w.heap.size 6 rfl cid _ G1.out Try.underlying23 rfl (by rw [HCL.out]; kernel_rfl) ?_)
    | (guard_target = wpList _ _ _ (Oper.mk _ (.load 23 _) _ _ _ _ :: _) _ _; refine wpList_load_midG (by rfl) 23 _ rfl (w.heap.size + 1) 6 rfl cie _ G2.out Try.underlying23 rfl (by rw [HCL'.out]; kernel_rfl) ?_)
    | (guard_target = wpList _ _ _ (Oper.mk _ (.binOp .neq 23 _ _ _) _ _ _ _ :: _) _ _; refine wpList_binG (by rfl) .neq 23 _ _ _ rfl (.agg cid.toArray) (.agg cie.toArray) rfl rfl (.bool true) (run_eqGuard_agg _ _ _ _ _ _ _ (by kernel_rfl)) (HNQ.out _) ?_; clear G1 G2 HNQ HCL)
    | go_values | go_skip | go_guarded | go_step | go_upon)
  go_ret
  exact ⟨rfl, HB.out⟩
set_option maxRecDepth 100000 in
set_option maxHeartbeats 4000000 in
theorem same_no7 (r r' : Raw) (d i l d' i' l' : Value) (w : World) (hr : RdR w (fun b => b < w.heap.size) r d i l) (hr' : RdR w (fun b => b < w.heap.size) r' d' i' l') (h0 : r.kind = r'.kind) (h1 : r.who = r'.who) (h2 : r.height = r'.height) (h3 : r.round = r'.round) (h4 : r.valid = r'.valid) (h5 : r.num = r'.num) (h6 : id32 r.id = id32 r'.id) (hne : ¬ r.data = r'.data) :
    Calls Try.prog 15 #[.agg (msgA r d i l), .agg (msgA r' d' i' l')] w fun e w' => e = .returned (.bool false) ∧ Below w.heap.size w w' := by
  obtain ⟨rk, rwh, rhe, rro, rva, rnu, rid, rda, rids, rls⟩ := r'
  simp only at h0 h1 h2 h3 h4 h5 h6 hne
  subst h0 h1 h2 h3 h4 h5
  have b1 : Blk ((w.alloc (.cells (msgA r d i l) 28)).alloc (.cells (msgA ⟨r.kind, r.who, r.height, r.round, r.valid, r.num, rid, rda, rids, rls⟩ d' i' l') 28)) w.heap.size 28 (msgA r d i l) := (Blk.new _ _ _).alloc _
  have b2 : Blk ((w.alloc (.cells (msgA r d i l) 28)).alloc (.cells (msgA ⟨r.kind, r.who, r.height, r.round, r.valid, r.num, rid, rda, rids, rls⟩ d' i' l') 28)) (w.heap.size + 1) 28 (msgA ⟨r.kind, r.who, r.height, r.round, r.valid, r.num, rid, rda, rids, rls⟩ d' i' l') := Blk.newAt _ _ (by simp) rfl
  have hb : Below w.heap.size w ((w.alloc (.cells (msgA r d i l) 28)).alloc (.cells (msgA ⟨r.kind, r.who, r.height, r.round, r.valid, r.num, rid, rda, rids, rls⟩ d' i' l') 28)) := ((Below.refl _ _).alloc (Nat.le_refl _) _).alloc (by simp) _
  obtain ⟨x0, x1, x2, x3, x4, x5, x6, x7, x8⟩ := msg_cells b1
  obtain ⟨y0, y1, y2, y3, y4, y5, y6, y7, y8⟩ := msg_cells b2
  have g1 := id_range b1
  have g2 := id_range b2
  rw [← h6] at g2
  obtain ⟨cid, hcid⟩ : ∃ cid, (id32 r.id).map Extern.Stop.cell = cid := ⟨_, rfl⟩
  have hcl : cid.length = 32 := by rw [← hcid]; simp [id32]
  have hnq : ∀ w', (binOp .neq 23 (.agg cid.toArray) (.agg cid.toArray)).run Try.prog w' = .ok (.bool false) w' := fun w' => by
    have := neq_id r.id r.id w'
    rw [arr_id32, hcid] at this
    rw [this]
    simp
  rw [hcid] at g1 g2
  have HNQ := Lib.hid hnq
  clear hnq
  have G1 := Lib.hid g1
  have G2 := Lib.hid g2
  have HCL := Lib.hid hcl
  have hr1 := hr.below hb
  have hr1' := hr'.below hb
  have HB := Lib.hid hb
  generalize hM : msgA r d i l = M at *
  generalize hM' : msgA ⟨r.kind, r.who, r.height, r.round, r.valid, r.num, rid, rda, rids, rls⟩ d' i' l' = M' at *
  clear hM hM' b1 b2
  obtain ⟨⟨Ad, cd, rfl, -⟩, ⟨Ai, ci, rfl, -⟩, ⟨Al, cl, rfl, -⟩⟩ := id hr1
  obtain ⟨⟨Ad', cd', rfl, -⟩, ⟨Ai', ci', rfl, -⟩, ⟨Al', cl', rfl, -⟩⟩ := id hr1'
  simp only at hr1' x6 x7 x8 y6 y7 y8
  have v1 := str_rd hr1.data
  have v2 := str_rd hr1'.data
  simp only at v1 v2
  have hns := neq_str r.data rda
  rw [show (r.data == rda) = false from by simpa using hne] at hns
  obtain ⟨sa, hsa⟩ : ∃ s : ByteArray, ⟨r.data.toArray⟩ = s := ⟨_, rfl⟩
  obtain ⟨sb, hsb⟩ : ∃ s : ByteArray, ⟨rda.toArray⟩ = s := ⟨_, rfl⟩
  rw [hsa] at v1 hns
  rw [hsb] at v2 hns
  have HNS : Hid (∀ w', (binOp .neq 9 (.string sa) (.string sb)).run Try.prog w' = .ok (.bool true) w') := Lib.hid hns
  clear hsa hsb hns
  obtain ⟨nd, hnd⟩ : ∃ nd, r.data.length = nd := ⟨_, rfl⟩
  obtain ⟨nd', hnd'⟩ : ∃ nd, rda.length = nd := ⟨_, rfl⟩
  rw [hnd] at x6 v1
  rw [hnd'] at y6 v2
  obtain ⟨ni, hni⟩ : ∃ ni, r.ids.length = ni := ⟨_, rfl⟩
  obtain ⟨nl, hnl⟩ : ∃ nl, r.list.length = nl := ⟨_, rfl⟩
  rw [hni] at x7
  rw [hnl] at x8
  obtain ⟨ni', hni'⟩ : ∃ ni, rids.length = ni := ⟨_, rfl⟩
  rw [hni'] at y7
  obtain ⟨nl', hnl'⟩ : ∃ nl, rls.length = nl := ⟨_, rfl⟩
  rw [hnl'] at y8
  clear hb hr hr' hr1 hr1' hni hnl hnd hnd' hni' hnl' hcid g1 g2 hcl h6 hne
  go_enter Try.func15, Try.ntmps15
  repeat (first
    | (guard_target = wpList _ _ _ (Oper.mk _ (.load 23 _) _ _ _ _ :: _) _ _; refine wpList_load_midG (by rfl) 23 _ rfl w.heap.size 6 rfl cid _ G1.out Try.underlying23 rfl (by rw [HCL.out]; kernel_rfl) ?_)
    | (guard_target = wpList _ _ _ (Oper.mk _ (.load 23 _) _ _ _ _ :: _) _ _; refine wpList_load_midG (by rfl) 23 _ rfl (w.heap.size + 1) 6 rfl cid _ G2.out Try.underlying23 rfl (by rw [HCL.out]; kernel_rfl) ?_)
    | (guard_target = wpList _ _ _ (Oper.mk _ (.binOp .neq 9 _ _ _) _ _ _ _ :: _) _ _; refine wpList_binG (by rfl) .neq 9 _ _ _ rfl (.string sa) (.string sb) rfl rfl (.bool true) rfl (HNS.out _) ?_)
    | (guard_target = wpList _ _ _ (Oper.mk _ (.binOp .neq 23 _ _ _) _ _ _ _ :: _) _ _; refine wpList_binG (by rfl) .neq 23 _ _ _ rfl (.agg cid.toArray) (.agg cid.toArray) rfl rfl (.bool false) (run_eqGuard_agg _ _ _ _ _ _ _ (by kernel_rfl)) (HNQ.out _) ?_; clear G1 G2 HNQ HCL)
    | go_values | go_skip | go_guarded | go_step | go_upon)
  go_ret
  exact ⟨rfl, HB.out⟩
set_option maxRecDepth 100000 in
set_option maxHeartbeats 4000000 in
theorem same_no8 (r r' : Raw) (d i l d' i' l' : Value) (w : World) (hr : RdR w (fun b => b < w.heap.size) r d i l) (hr' : RdR w (fun b => b < w.heap.size) r' d' i' l') (h0 : r.kind = r'.kind) (h1 : r.who = r'.who) (h2 : r.height = r'.height) (h3 : r.round = r'.round) (h4 : r.valid = r'.valid) (h5 : r.num = r'.num) (h6 : id32 r.id = id32 r'.id) (h7 : r.data = r'.data) (hne : ¬ r.ids.length = r'.ids.length) :
    Calls Try.prog 15 #[.agg (msgA r d i l), .agg (msgA r' d' i' l')] w fun e w' => e = .returned (.bool false) ∧ Below w.heap.size w w' := by
  obtain ⟨rk, rwh, rhe, rro, rva, rnu, rid, rda, rids, rls⟩ := r'
  simp only at h0 h1 h2 h3 h4 h5 h6 h7 hne
  subst h0 h1 h2 h3 h4 h5
  subst h7
  have b1 : Blk ((w.alloc (.cells (msgA r d i l) 28)).alloc (.cells (msgA ⟨r.kind, r.who, r.height, r.round, r.valid, r.num, rid, r.data, rids, rls⟩ d' i' l') 28)) w.heap.size 28 (msgA r d i l) := (Blk.new _ _ _).alloc _
  have b2 : Blk ((w.alloc (.cells (msgA r d i l) 28)).alloc (.cells (msgA ⟨r.kind, r.who, r.height, r.round, r.valid, r.num, rid, r.data, rids, rls⟩ d' i' l') 28)) (w.heap.size + 1) 28 (msgA ⟨r.kind, r.who, r.height, r.round, r.valid, r.num, rid, r.data, rids, rls⟩ d' i' l') := Blk.newAt _ _ (by simp) rfl
  have hb : Below w.heap.size w ((w.alloc (.cells (msgA r d i l) 28)).alloc (.cells (msgA ⟨r.kind, r.who, r.height, r.round, r.valid, r.num, rid, r.data, rids, rls⟩ d' i' l') 28)) := ((Below.refl _ _).alloc (Nat.le_refl _) _).alloc (by simp) _
  obtain ⟨x0, x1, x2, x3, x4, x5, x6, x7, x8⟩ := msg_cells b1
  obtain ⟨y0, y1, y2, y3, y4, y5, y6, y7, y8⟩ := msg_cells b2
  have g1 := id_range b1
  have g2 := id_range b2
  rw [← h6] at g2
  obtain ⟨cid, hcid⟩ : ∃ cid, (id32 r.id).map Extern.Stop.cell = cid := ⟨_, rfl⟩
  have hcl : cid.length = 32 := by rw [← hcid]; simp [id32]
  have hnq : ∀ w', (binOp .neq 23 (.agg cid.toArray) (.agg cid.toArray)).run Try.prog w' = .ok (.bool false) w' := fun w' => by
    have := neq_id r.id r.id w'
    rw [arr_id32, hcid] at this
    rw [this]
    simp
  rw [hcid] at g1 g2
  have HNQ := Lib.hid hnq
  clear hnq
  have G1 := Lib.hid g1
  have G2 := Lib.hid g2
  have HCL := Lib.hid hcl
  have hr1 := hr.below hb
  have hr1' := hr'.below hb
  have HB := Lib.hid hb
  generalize hM : msgA r d i l = M at *
  generalize hM' : msgA ⟨r.kind, r.who, r.height, r.round, r.valid, r.num, rid, r.data, rids, rls⟩ d' i' l' = M' at *
  clear hM hM' b1 b2
  obtain ⟨⟨Ad, cd, rfl, -⟩, ⟨Ai, ci, rfl, -⟩, ⟨Al, cl, rfl, -⟩⟩ := id hr1
  obtain ⟨⟨Ad', cd', rfl, -⟩, ⟨Ai', ci', rfl, -⟩, ⟨Al', cl', rfl, -⟩⟩ := id hr1'
  simp only at hr1' x6 x7 x8 y6 y7 y8
  have v1 := str_rd hr1.data
  have v2 := str_rd hr1'.data
  simp only at v1 v2
  obtain ⟨nd, hnd⟩ : ∃ nd, r.data.length = nd := ⟨_, rfl⟩
  rw [hnd] at x6 y6 v1 v2
  obtain ⟨ni, hni⟩ : ∃ ni, r.ids.length = ni := ⟨_, rfl⟩
  obtain ⟨nl, hnl⟩ : ∃ nl, r.list.length = nl := ⟨_, rfl⟩
  rw [hni] at x7 hne
  rw [hnl] at x8
  obtain ⟨ni', hni'⟩ : ∃ ni, rids.length = ni := ⟨_, rfl⟩
  rw [hni'] at y7 hne
  obtain ⟨nl', hnl'⟩ : ∃ nl, rls.length = nl := ⟨_, rfl⟩
  rw [hnl'] at y8
  have hne1 : ¬ ((ni : Nat) : Int) = ((ni' : Nat) : Int) := by omega
  have hne2 : decide (((ni : Nat) : Int) = ((ni' : Nat) : Int)) = false := decide_eq_false hne1
  have hne3 : (((ni : Nat) : Int) == ((ni' : Nat) : Int)) = false := by simpa using hne1
  clear hb hr hr' hr1 hr1' hni hnl hnd hni' hnl' hcid g1 g2 hcl h6 hne
  go_enter Try.func15, Try.ntmps15
  repeat (first
    | (guard_target = wpList _ _ _ (Oper.mk _ (.load 23 _) _ _ _ _ :: _) _ _; refine wpList_load_midG (by rfl) 23 _ rfl w.heap.size 6 rfl cid _ G1.out Try.underlying23 rfl (by rw [HCL.out]; kernel_rfl) ?_)
    | (guard_target = wpList _ _ _ (Oper.mk _ (.load 23 _) _ _ _ _ :: _) _ _; refine wpList_load_midG (by rfl) 23 _ rfl (w.heap.size + 1) 6 rfl cid _ G2.out Try.underlying23 rfl (by rw [HCL.out]; kernel_rfl) ?_)
    | (guard_target = wpList _ _ _ (Oper.mk _ (.binOp .neq 23 _ _ _) _ _ _ _ :: _) _ _; refine wpList_binG (by rfl) .neq 23 _ _ _ rfl (.agg cid.toArray) (.agg cid.toArray) rfl rfl (.bool false) (run_eqGuard_agg _ _ _ _ _ _ _ (by kernel_rfl)) (HNQ.out _) ?_; clear G1 G2 HNQ HCL)
    | go_values | go_skip | go_guarded | go_step | go_upon)
  go_ret
  exact ⟨rfl, HB.out⟩
set_option maxRecDepth 100000 in
set_option maxHeartbeats 4000000 in
theorem same_no9 (r r' : Raw) (d i l d' i' l' : Value) (w : World) (hr : RdR w (fun b => b < w.heap.size) r d i l) (hr' : RdR w (fun b => b < w.heap.size) r' d' i' l') (h0 : r.kind = r'.kind) (h1 : r.who = r'.who) (h2 : r.height = r'.height) (h3 : r.round = r'.round) (h4 : r.valid = r'.valid) (h5 : r.num = r'.num) (h6 : id32 r.id = id32 r'.id) (h7 : r.data = r'.data) (h8 : r.ids.length = r'.ids.length) (hne : ¬ r.list.length = r'.list.length) :
    Calls Try.prog 15 #[.agg (msgA r d i l), .agg (msgA r' d' i' l')] w fun e w' => e = .returned (.bool false) ∧ Below w.heap.size w w' := by
  obtain ⟨rk, rwh, rhe, rro, rva, rnu, rid, rda, rids, rls⟩ := r'
  simp only at h0 h1 h2 h3 h4 h5 h6 h7 h8 hne
  subst h0 h1 h2 h3 h4 h5
  subst h7
  have b1 : Blk ((w.alloc (.cells (msgA r d i l) 28)).alloc (.cells (msgA ⟨r.kind, r.who, r.height, r.round, r.valid, r.num, rid, r.data, rids, rls⟩ d' i' l') 28)) w.heap.size 28 (msgA r d i l) := (Blk.new _ _ _).alloc _
  have b2 : Blk ((w.alloc (.cells (msgA r d i l) 28)).alloc (.cells (msgA ⟨r.kind, r.who, r.height, r.round, r.valid, r.num, rid, r.data, rids, rls⟩ d' i' l') 28)) (w.heap.size + 1) 28 (msgA ⟨r.kind, r.who, r.height, r.round, r.valid, r.num, rid, r.data, rids, rls⟩ d' i' l') := Blk.newAt _ _ (by simp) rfl
  have hb : Below w.heap.size w ((w.alloc (.cells (msgA r d i l) 28)).alloc (.cells (msgA ⟨r.kind, r.who, r.height, r.round, r.valid, r.num, rid, r.data, rids, rls⟩ d' i' l') 28)) := ((Below.refl _ _).alloc (Nat.le_refl _) _).alloc (by simp) _
  obtain ⟨x0, x1, x2, x3, x4, x5, x6, x7, x8⟩ := msg_cells b1
  obtain ⟨y0, y1, y2, y3, y4, y5, y6, y7, y8⟩ := msg_cells b2
  have g1 := id_range b1
  have g2 := id_range b2
  rw [← h6] at g2
  obtain ⟨cid, hcid⟩ : ∃ cid, (id32 r.id).map Extern.Stop.cell = cid := ⟨_, rfl⟩
  have hcl : cid.length = 32 := by rw [← hcid]; simp [id32]
  have hnq : ∀ w', (binOp .neq 23 (.agg cid.toArray) (.agg cid.toArray)).run Try.prog w' = .ok (.bool false) w' := fun w' => by
    have := neq_id r.id r.id w'
    rw [arr_id32, hcid] at this
    rw [this]
    simp
  rw [hcid] at g1 g2
  have HNQ := Lib.hid hnq
  clear hnq
  have G1 := Lib.hid g1
  have G2 := Lib.hid g2
  have HCL := Lib.hid hcl
  have hr1 := hr.below hb
  have hr1' := hr'.below hb
  have HB := Lib.hid hb
  generalize hM : msgA r d i l = M at *
  generalize hM' : msgA ⟨r.kind, r.who, r.height, r.round, r.valid, r.num, rid, r.data, rids, rls⟩ d' i' l' = M' at *
  clear hM hM' b1 b2
  obtain ⟨⟨Ad, cd, rfl, -⟩, ⟨Ai, ci, rfl, -⟩, ⟨Al, cl, rfl, -⟩⟩ := id hr1
  obtain ⟨⟨Ad', cd', rfl, -⟩, ⟨Ai', ci', rfl, -⟩, ⟨Al', cl', rfl, -⟩⟩ := id hr1'
  simp only at hr1' x6 x7 x8 y6 y7 y8
  have v1 := str_rd hr1.data
  have v2 := str_rd hr1'.data
  simp only at v1 v2
  obtain ⟨nd, hnd⟩ : ∃ nd, r.data.length = nd := ⟨_, rfl⟩
  rw [hnd] at x6 y6 v1 v2
  obtain ⟨ni, hni⟩ : ∃ ni, r.ids.length = ni := ⟨_, rfl⟩
  obtain ⟨nl, hnl⟩ : ∃ nl, r.list.length = nl := ⟨_, rfl⟩
  rw [hni] at x7 h8
  rw [hnl] at x8 hne
  rw [← h8] at y7
  obtain ⟨nl', hnl'⟩ : ∃ nl, rls.length = nl := ⟨_, rfl⟩
  rw [hnl'] at y8 hne
  have hne1 : ¬ ((nl : Nat) : Int) = ((nl' : Nat) : Int) := by omega
  have hne2 : decide (((nl : Nat) : Int) = ((nl' : Nat) : Int)) = false := decide_eq_false hne1
  have hne3 : (((nl : Nat) : Int) == ((nl' : Nat) : Int)) = false := by simpa using hne1
  clear hb hr hr' hr1 hr1' hni hnl hnd hnl' hcid g1 g2 hcl h6 h8 hne
  go_enter Try.func15, Try.ntmps15
  repeat (first
    | (guard_target = wpList _ _ _ (Oper.mk _ (.load 23 _) _ _ _ _ :: _) _ _; refine wpList_load_midG (by rfl) 23 _ rfl w.heap.size 6 rfl cid _ G1.out Try.underlying23 rfl (by rw [HCL.out]; kernel_rfl) ?_)
    | (guard_target = wpList _ _ _ (Oper.mk _ (.load 23 _) _ _ _ _ :: _) _ _; refine wpList_load_midG (by rfl) 23 _ rfl (w.heap.size + 1) 6 rfl cid _ G2.out Try.underlying23 rfl (by rw [HCL.out]; kernel_rfl) ?_)
    | (guard_target = wpList _ _ _ (Oper.mk _ (.binOp .neq 23 _ _ _) _ _ _ _ :: _) _ _; refine wpList_binG (by rfl) .neq 23 _ _ _ rfl (.agg cid.toArray) (.agg cid.toArray) rfl rfl (.bool false) (run_eqGuard_agg _ _ _ _ _ _ _ (by kernel_rfl)) (HNQ.out _) ?_; clear G1 G2 HNQ HCL)
    | go_values | go_skip | go_guarded | go_step | go_upon)
  go_ret
  exact ⟨rfl, HB.out⟩
end Go.Proofs.Ytngceddlieimmaa
