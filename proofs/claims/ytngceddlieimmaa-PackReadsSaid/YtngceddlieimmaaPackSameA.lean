/-
  The reference's Same: unlike by one of the first five fields: false.
-/
import Derived.Test.YtngceddlieimmaaPackSameH
namespace Go.Proofs.Ytngceddlieimmaa
open Go Go.RowKit PackMath

set_option maxRecDepth 100000 in
set_option maxHeartbeats 4000000 in
theorem same_no0 (r r' : Raw) (d i l d' i' l' : Value) (w : World) (hr : RdR w (fun b => b < w.heap.size) r d i l) (hr' : RdR w (fun b => b < w.heap.size) r' d' i' l') (hne : ¬ r.kind = r'.kind) :
    Calls Try.prog 15 #[.agg (msgA r d i l), .agg (msgA r' d' i' l')] w fun e w' => e = .returned (.bool false) ∧ Below w.heap.size w w' := by
  obtain ⟨rk, rwh, rhe, rro, rva, rnu, rid, rda, rids, rls⟩ := r'
  simp only at  hne
  have b1 : Blk ((w.alloc (.cells (msgA r d i l) 28)).alloc (.cells (msgA ⟨rk, rwh, rhe, rro, rva, rnu, rid, rda, rids, rls⟩ d' i' l') 28)) w.heap.size 28 (msgA r d i l) := (Blk.new _ _ _).alloc _
  have b2 : Blk ((w.alloc (.cells (msgA r d i l) 28)).alloc (.cells (msgA ⟨rk, rwh, rhe, rro, rva, rnu, rid, rda, rids, rls⟩ d' i' l') 28)) (w.heap.size + 1) 28 (msgA ⟨rk, rwh, rhe, rro, rva, rnu, rid, rda, rids, rls⟩ d' i' l') := Blk.newAt _ _ (by simp) rfl
  have hb : Below w.heap.size w ((w.alloc (.cells (msgA r d i l) 28)).alloc (.cells (msgA ⟨rk, rwh, rhe, rro, rva, rnu, rid, rda, rids, rls⟩ d' i' l') 28)) := ((Below.refl _ _).alloc (Nat.le_refl _) _).alloc (by simp) _
  obtain ⟨x0, x1, x2, x3, x4, x5, x6, x7, x8⟩ := msg_cells b1
  obtain ⟨y0, y1, y2, y3, y4, y5, y6, y7, y8⟩ := msg_cells b2
  have hr1 := hr.below hb
  have hr1' := hr'.below hb
  have HB := Lib.hid hb
  generalize hM : msgA r d i l = M at *
  generalize hM' : msgA ⟨rk, rwh, rhe, rro, rva, rnu, rid, rda, rids, rls⟩ d' i' l' = M' at *
  clear hM hM' b1 b2
  obtain ⟨⟨Ad, cd, rfl, -⟩, ⟨Ai, ci, rfl, -⟩, ⟨Al, cl, rfl, -⟩⟩ := id hr1
  obtain ⟨⟨Ad', cd', rfl, -⟩, ⟨Ai', ci', rfl, -⟩, ⟨Al', cl', rfl, -⟩⟩ := id hr1'
  simp only at hr1' x6 x7 x8 y6 y7 y8
  have v1 := str_rd hr1.data
  have v2 := str_rd hr1'.data
  simp only at v1 v2
  have hne2 : decide (r.kind = rk) = false := decide_eq_false hne
  have hne3 : (r.kind == rk) = false := by simpa using hne
  obtain ⟨nd, hnd⟩ : ∃ nd, r.data.length = nd := ⟨_, rfl⟩
  obtain ⟨nd', hnd'⟩ : ∃ nd, rda.length = nd := ⟨_, rfl⟩
  rw [hnd] at x6 v1
  rw [hnd'] at y6 v2
  obtain ⟨ni, hni⟩ : ∃ ni, r.ids.length = ni := ⟨_, rfl⟩
  obtain ⟨nl, hnl⟩ : ∃ nl, r.list.length = nl := ⟨_, rfl⟩
  rw [hni] at x7
  rw [hnl] at x8
  obtain ⟨ni', hni'⟩ : ∃ ni, rids.length = ni := ⟨_, rfl⟩
  rw [hni'] at y7
  obtain ⟨nl', hnl'⟩ : ∃ nl, rls.length = nl := ⟨_, rfl⟩
  rw [hnl'] at y8
  clear hb hr hr' hr1 hr1' hni hnl hnd hnd' hni' hnl'
  go_enter Try.func15, Try.ntmps15
  repeat (first
    | go_values | go_skip | go_guarded | go_step | go_upon)
  go_ret
  exact ⟨rfl, HB.out⟩
set_option maxRecDepth 100000 in
set_option maxHeartbeats 4000000 in
theorem same_no1 (r r' : Raw) (d i l d' i' l' : Value) (w : World) (hr : RdR w (fun b => b < w.heap.size) r d i l) (hr' : RdR w (fun b => b < w.heap.size) r' d' i' l') (h0 : r.kind = r'.kind) (hne : ¬ r.who = r'.who) :
    Calls Try.prog 15 #[.agg (msgA r d i l), .agg (msgA r' d' i' l')] w fun e w' => e = .returned (.bool false) ∧ Below w.heap.size w w' := by
  obtain ⟨rk, rwh, rhe, rro, rva, rnu, rid, rda, rids, rls⟩ := r'
  simp only at h0 hne
  subst h0
  have b1 : Blk ((w.alloc (.cells (msgA r d i l) 28)).alloc (.cells (msgA ⟨r.kind, rwh, rhe, rro, rva, rnu, rid, rda, rids, rls⟩ d' i' l') 28)) w.heap.size 28 (msgA r d i l) := (Blk.new _ _ _).alloc _
  have b2 : Blk ((w.alloc (.cells (msgA r d i l) 28)).alloc (.cells (msgA ⟨r.kind, rwh, rhe, rro, rva, rnu, rid, rda, rids, rls⟩ d' i' l') 28)) (w.heap.size + 1) 28 (msgA ⟨r.kind, rwh, rhe, rro, rva, rnu, rid, rda, rids, rls⟩ d' i' l') := Blk.newAt _ _ (by simp) rfl
  have hb : Below w.heap.size w ((w.alloc (.cells (msgA r d i l) 28)).alloc (.cells (msgA ⟨r.kind, rwh, rhe, rro, rva, rnu, rid, rda, rids, rls⟩ d' i' l') 28)) := ((Below.refl _ _).alloc (Nat.le_refl _) _).alloc (by simp) _
  obtain ⟨x0, x1, x2, x3, x4, x5, x6, x7, x8⟩ := msg_cells b1
  obtain ⟨y0, y1, y2, y3, y4, y5, y6, y7, y8⟩ := msg_cells b2
  have hr1 := hr.below hb
  have hr1' := hr'.below hb
  have HB := Lib.hid hb
  generalize hM : msgA r d i l = M at *
  generalize hM' : msgA ⟨r.kind, rwh, rhe, rro, rva, rnu, rid, rda, rids, rls⟩ d' i' l' = M' at *
  clear hM hM' b1 b2
  obtain ⟨⟨Ad, cd, rfl, -⟩, ⟨Ai, ci, rfl, -⟩, ⟨Al, cl, rfl, -⟩⟩ := id hr1
  obtain ⟨⟨Ad', cd', rfl, -⟩, ⟨Ai', ci', rfl, -⟩, ⟨Al', cl', rfl, -⟩⟩ := id hr1'
  simp only at hr1' x6 x7 x8 y6 y7 y8
  have v1 := str_rd hr1.data
  have v2 := str_rd hr1'.data
  simp only at v1 v2
  have hne2 : decide (r.who = rwh) = false := decide_eq_false hne
  have hne3 : (r.who == rwh) = false := by simpa using hne
  obtain ⟨nd, hnd⟩ : ∃ nd, r.data.length = nd := ⟨_, rfl⟩
  obtain ⟨nd', hnd'⟩ : ∃ nd, rda.length = nd := ⟨_, rfl⟩
  rw [hnd] at x6 v1
  rw [hnd'] at y6 v2
  obtain ⟨ni, hni⟩ : ∃ ni, r.ids.length = ni := ⟨_, rfl⟩
  obtain ⟨nl, hnl⟩ : ∃ nl, r.list.length = nl := ⟨_, rfl⟩
  rw [hni] at x7
  rw [hnl] at x8
  obtain ⟨ni', hni'⟩ : ∃ ni, rids.length = ni := ⟨_, rfl⟩
  rw [hni'] at y7
  obtain ⟨nl', hnl'⟩ : ∃ nl, rls.length = nl := ⟨_, rfl⟩
  rw [hnl'] at y8
  clear hb hr hr' hr1 hr1' hni hnl hnd hnd' hni' hnl'
  go_enter Try.func15, Try.ntmps15
  repeat (first
    | go_values | go_skip | go_guarded | go_step | go_upon)
  go_ret
  exact ⟨rfl, HB.out⟩
set_option maxRecDepth 100000 in
set_option maxHeartbeats 4000000 in
theorem same_no2 (r r' : Raw) (d i l d' i' l' : Value) (w : World) (hr : RdR w (fun b => b < w.heap.size) r d i l) (hr' : RdR w (fun b => b < w.heap.size) r' d' i' l') (h0 : r.kind = r'.kind) (h1 : r.who = r'.who) (hne : ¬ r.height = r'.height) :
    Calls Try.prog 15 #[.agg (msgA r d i l), .agg (msgA r' d' i' l')] w fun e w' => e = .returned (.bool false) ∧ Below w.heap.size w w' := by
  obtain ⟨rk, rwh, rhe, rro, rva, rnu, rid, rda, rids, rls⟩ := r'
  simp only at h0 h1 hne
  subst h0 h1
  have b1 : Blk ((w.alloc (.cells (msgA r d i l) 28)).alloc (.cells (msgA ⟨r.kind, r.who, rhe, rro, rva, rnu, rid, rda, rids, rls⟩ d' i' l') 28)) w.heap.size 28 (msgA r d i l) := (Blk.new _ _ _).alloc _
  have b2 : Blk ((w.alloc (.cells (msgA r d i l) 28)).alloc (.cells (msgA ⟨r.kind, r.who, rhe, rro, rva, rnu, rid, rda, rids, rls⟩ d' i' l') 28)) (w.heap.size + 1) 28 (msgA ⟨r.kind, r.who, rhe, rro, rva, rnu, rid, rda, rids, rls⟩ d' i' l') := Blk.newAt _ _ (by simp) rfl
  have hb : Below w.heap.size w ((w.alloc (.cells (msgA r d i l) 28)).alloc (.cells (msgA ⟨r.kind, r.who, rhe, rro, rva, rnu, rid, rda, rids, rls⟩ d' i' l') 28)) := ((Below.refl _ _).alloc (Nat.le_refl _) _).alloc (by simp) _
  obtain ⟨x0, x1, x2, x3, x4, x5, x6, x7, x8⟩ := msg_cells b1
  obtain ⟨y0, y1, y2, y3, y4, y5, y6, y7, y8⟩ := msg_cells b2
  have hr1 := hr.below hb
  have hr1' := hr'.below hb
  have HB := Lib.hid hb
  generalize hM : msgA r d i l = M at *
  generalize hM' : msgA ⟨r.kind, r.who, rhe, rro, rva, rnu, rid, rda, rids, rls⟩ d' i' l' = M' at *
  clear hM hM' b1 b2
  obtain ⟨⟨Ad, cd, rfl, -⟩, ⟨Ai, ci, rfl, -⟩, ⟨Al, cl, rfl, -⟩⟩ := id hr1
  obtain ⟨⟨Ad', cd', rfl, -⟩, ⟨Ai', ci', rfl, -⟩, ⟨Al', cl', rfl, -⟩⟩ := id hr1'
  simp only at hr1' x6 x7 x8 y6 y7 y8
  have v1 := str_rd hr1.data
  have v2 := str_rd hr1'.data
  simp only at v1 v2
  have hne2 : decide (r.height = rhe) = false := decide_eq_false hne
  have hne3 : (r.height == rhe) = false := by simpa using hne
  obtain ⟨nd, hnd⟩ : ∃ nd, r.data.length = nd := ⟨_, rfl⟩
  obtain ⟨nd', hnd'⟩ : ∃ nd, rda.length = nd := ⟨_, rfl⟩
  rw [hnd] at x6 v1
  rw [hnd'] at y6 v2
  obtain ⟨ni, hni⟩ : ∃ ni, r.ids.length = ni := ⟨_, rfl⟩
  obtain ⟨nl, hnl⟩ : ∃ nl, r.list.length = nl := ⟨_, rfl⟩
  rw [hni] at x7
  rw [hnl] at x8
  obtain ⟨ni', hni'⟩ : ∃ ni, rids.length = ni := ⟨_, rfl⟩
  rw [hni'] at y7
  obtain ⟨nl', hnl'⟩ : ∃ nl, rls.length = nl := ⟨_, rfl⟩
  rw [hnl'] at y8
  clear hb hr hr' hr1 hr1' hni hnl hnd hnd' hni' hnl'
  go_enter Try.func15, Try.ntmps15
  repeat (first
    | go_values | go_skip | go_guarded | go_step | go_upon)
  go_ret
  exact ⟨rfl, HB.out⟩
set_option maxRecDepth 100000 in
set_option maxHeartbeats 4000000 in
theorem same_no3 (r r' : Raw) (d i l d' i' l' : Value) (w : World) (hr : RdR w (fun b => b < w.heap.size) r d i l) (hr' : RdR w (fun b => b < w.heap.size) r' d' i' l') (h0 : r.kind = r'.kind) (h1 : r.who = r'.who) (h2 : r.height = r'.height) (hne : ¬ r.round = r'.round) :
    Calls Try.prog 15 #[.agg (msgA r d i l), .agg (msgA r' d' i' l')] w fun e w' => e = .returned (.bool false) ∧ Below w.heap.size w w' := by
  obtain ⟨rk, rwh, rhe, rro, rva, rnu, rid, rda, rids, rls⟩ := r'
  simp only at h0 h1 h2 hne
  subst h0 h1 h2
  have b1 : Blk ((w.alloc (.cells (msgA r d i l) 28)).alloc (.cells (msgA ⟨r.kind, r.who, r.height, rro, rva, rnu, rid, rda, rids, rls⟩ d' i' l') 28)) w.heap.size 28 (msgA r d i l) := (Blk.new _ _ _).alloc _
  have b2 : Blk ((w.alloc (.cells (msgA r d i l) 28)).alloc (.cells (msgA ⟨r.kind, r.who, r.height, rro, rva, rnu, rid, rda, rids, rls⟩ d' i' l') 28)) (w.heap.size + 1) 28 (msgA ⟨r.kind, r.who, r.height, rro, rva, rnu, rid, rda, rids, rls⟩ d' i' l') := Blk.newAt _ _ (by simp) rfl
  have hb : Below w.heap.size w ((w.alloc (.cells (msgA r d i l) 28)).alloc (.cells (msgA ⟨r.kind, r.who, r.height, rro, rva, rnu, rid, rda, rids, rls⟩ d' i' l') 28)) := ((Below.refl _ _).alloc (Nat.le_refl _) _).alloc (by simp) _
  obtain ⟨x0, x1, x2, x3, x4, x5, x6, x7, x8⟩ := msg_cells b1
  obtain ⟨y0, y1, y2, y3, y4, y5, y6, y7, y8⟩ := msg_cells b2
  have hr1 := hr.below hb
  have hr1' := hr'.below hb
  have HB := Lib.hid hb
  generalize hM : msgA r d i l = M at *
  generalize hM' : msgA ⟨r.kind, r.who, r.height, rro, rva, rnu, rid, rda, rids, rls⟩ d' i' l' = M' at *
  clear hM hM' b1 b2
  obtain ⟨⟨Ad, cd, rfl, -⟩, ⟨Ai, ci, rfl, -⟩, ⟨Al, cl, rfl, -⟩⟩ := id hr1
  obtain ⟨⟨Ad', cd', rfl, -⟩, ⟨Ai', ci', rfl, -⟩, ⟨Al', cl', rfl, -⟩⟩ := id hr1'
  simp only at hr1' x6 x7 x8 y6 y7 y8
  have v1 := str_rd hr1.data
  have v2 := str_rd hr1'.data
  simp only at v1 v2
  have hne2 : decide (r.round = rro) = false := decide_eq_false hne
  have hne3 : (r.round == rro) = false := by simpa using hne
  obtain ⟨nd, hnd⟩ : ∃ nd, r.data.length = nd := ⟨_, rfl⟩
  obtain ⟨nd', hnd'⟩ : ∃ nd, rda.length = nd := ⟨_, rfl⟩
  rw [hnd] at x6 v1
  rw [hnd'] at y6 v2
  obtain ⟨ni, hni⟩ : ∃ ni, r.ids.length = ni := ⟨_, rfl⟩
  obtain ⟨nl, hnl⟩ : ∃ nl, r.list.length = nl := ⟨_, rfl⟩
  rw [hni] at x7
  rw [hnl] at x8
  obtain ⟨ni', hni'⟩ : ∃ ni, rids.length = ni := ⟨_, rfl⟩
  rw [hni'] at y7
  obtain ⟨nl', hnl'⟩ : ∃ nl, rls.length = nl := ⟨_, rfl⟩
  rw [hnl'] at y8
  clear hb hr hr' hr1 hr1' hni hnl hnd hnd' hni' hnl'
  go_enter Try.func15, Try.ntmps15
  repeat (first
    | go_values | go_skip | go_guarded | go_step | go_upon)
  go_ret
  exact ⟨rfl, HB.out⟩
set_option maxRecDepth 100000 in
set_option maxHeartbeats 4000000 in
theorem same_no4 (r r' : Raw) (d i l d' i' l' : Value) (w : World) (hr : RdR w (fun b => b < w.heap.size) r d i l) (hr' : RdR w (fun b => b < w.heap.size) r' d' i' l') (h0 : r.kind = r'.kind) (h1 : r.who = r'.who) (h2 : r.height = r'.height) (h3 : r.round = r'.round) (hne : ¬ r.valid = r'.valid) :
    Calls Try.prog 15 #[.agg (msgA r d i l), .agg (msgA r' d' i' l')] w fun e w' => e = .returned (.bool false) ∧ Below w.heap.size w w' := by
  obtain ⟨rk, rwh, rhe, rro, rva, rnu, rid, rda, rids, rls⟩ := r'
  simp only at h0 h1 h2 h3 hne
  subst h0 h1 h2 h3
  have b1 : Blk ((w.alloc (.cells (msgA r d i l) 28)).alloc (.cells (msgA ⟨r.kind, r.who, r.height, r.round, rva, rnu, rid, rda, rids, rls⟩ d' i' l') 28)) w.heap.size 28 (msgA r d i l) := (Blk.new _ _ _).alloc _
  have b2 : Blk ((w.alloc (.cells (msgA r d i l) 28)).alloc (.cells (msgA ⟨r.kind, r.who, r.height, r.round, rva, rnu, rid, rda, rids, rls⟩ d' i' l') 28)) (w.heap.size + 1) 28 (msgA ⟨r.kind, r.who, r.height, r.round, rva, rnu, rid, rda, rids, rls⟩ d' i' l') := Blk.newAt _ _ (by simp) rfl
  have hb : Below w.heap.size w ((w.alloc (.cells (msgA r d i l) 28)).alloc (.cells (msgA ⟨r.kind, r.who, r.height, r.round, rva, rnu, rid, rda, rids, rls⟩ d' i' l') 28)) := ((Below.refl _ _).alloc (Nat.le_refl _) _).alloc (by simp) _
  obtain ⟨x0, x1, x2, x3, x4, x5, x6, x7, x8⟩ := msg_cells b1
  obtain ⟨y0, y1, y2, y3, y4, y5, y6, y7, y8⟩ := msg_cells b2
  have hr1 := hr.below hb
  have hr1' := hr'.below hb
  have HB := Lib.hid hb
  generalize hM : msgA r d i l = M at *
  generalize hM' : msgA ⟨r.kind, r.who, r.height, r.round, rva, rnu, rid, rda, rids, rls⟩ d' i' l' = M' at *
  clear hM hM' b1 b2
  obtain ⟨⟨Ad, cd, rfl, -⟩, ⟨Ai, ci, rfl, -⟩, ⟨Al, cl, rfl, -⟩⟩ := id hr1
  obtain ⟨⟨Ad', cd', rfl, -⟩, ⟨Ai', ci', rfl, -⟩, ⟨Al', cl', rfl, -⟩⟩ := id hr1'
  simp only at hr1' x6 x7 x8 y6 y7 y8
  have v1 := str_rd hr1.data
  have v2 := str_rd hr1'.data
  simp only at v1 v2
  have hne2 : decide (r.valid = rva) = false := decide_eq_false hne
  have hne3 : (r.valid == rva) = false := by simpa using hne
  obtain ⟨nd, hnd⟩ : ∃ nd, r.data.length = nd := ⟨_, rfl⟩
  obtain ⟨nd', hnd'⟩ : ∃ nd, rda.length = nd := ⟨_, rfl⟩
  rw [hnd] at x6 v1
  rw [hnd'] at y6 v2
  obtain ⟨ni, hni⟩ : ∃ ni, r.ids.length = ni := ⟨_, rfl⟩
  obtain ⟨nl, hnl⟩ : ∃ nl, r.list.length = nl := ⟨_, rfl⟩
  rw [hni] at x7
  rw [hnl] at x8
  obtain ⟨ni', hni'⟩ : ∃ ni, rids.length = ni := ⟨_, rfl⟩
  rw [hni'] at y7
  obtain ⟨nl', hnl'⟩ : ∃ nl, rls.length = nl := ⟨_, rfl⟩
  rw [hnl'] at y8
  clear hb hr hr' hr1 hr1' hni hnl hnd hnd' hni' hnl'
  go_enter Try.func15, Try.ntmps15
  repeat (first
    | go_values | go_skip | go_guarded | go_step | go_upon)
  go_ret
  exact ⟨rfl, HB.out⟩
end Go.Proofs.Ytngceddlieimmaa
