/-
  The reference's Same: messages alike but perhaps in IDs and List: whether these are.
-/
import Derived.Test.YtngceddlieimmaaPackSameH
namespace Go.Proofs.Ytngceddlieimmaa
open Go Go.RowKit PackMath

theorem yieldsIf_bin {P : Program} {ops : Array Oper} {S : World → Prop} {op : Oper} {a : Act} (hw : Region.wanted op (yielded ops a.tmps) = true) (bop : BinOp) (t rt : TypeId) (x y : Operand) (ho : op.op = .binOp bop t x y rt)
    (vx vy : Value) (hx : a.eval x = vx) (hy : a.eval y = vy) (v : Value) (hg : ∀ w, (eqGuard bop t x y vx vy).run P w = .ok () w) (hrun : ∀ w, (binOp bop t vx vy).run P w = .ok v w) : YieldsIf P ops S op v a :=
  .inl ⟨hw, fun w _ => by
    unfold execOp
    simp only [ho, hx, hy, Sem.run_bind, hg, hrun, Sem.run_pure, Result.andThen_ok]⟩
theorem map_ne {ps qs : List (Nat → UInt8)} {k : Nat} (hk : k < ps.length) (hl : ps.length = qs.length) (h : ¬ id32 (ps.getD k fun _ => 0) = id32 (qs.getD k fun _ => 0)) : ¬ ps.map id32 = qs.map id32 := fun e => h (by
  have := congrArg (fun l => l[k]?) e
  simp only [List.getElem?_map, List.getElem?_eq_getElem hk, List.getElem?_eq_getElem (show k < qs.length by omega), Option.map_some, Option.some.injEq] at this
  rw [List.getD_eq_getElem?_getD, List.getD_eq_getElem?_getD, List.getElem?_eq_getElem hk, List.getElem?_eq_getElem (show k < qs.length by omega)]
  exact this)
theorem map_eq {ps qs : List (Nat → UInt8)} (hl : ps.length = qs.length) (h : ∀ j, j < ps.length → id32 (ps.getD j fun _ => 0) = id32 (qs.getD j fun _ => 0)) : ps.map id32 = qs.map id32 := by
  apply List.ext_getElem?
  intro j
  by_cases hj : j < ps.length
  · have := h j hj
    rw [List.getD_eq_getElem?_getD, List.getD_eq_getElem?_getD, List.getElem?_eq_getElem hj, List.getElem?_eq_getElem (show j < qs.length by omega)] at this
    rw [List.getElem?_map, List.getElem?_map, List.getElem?_eq_getElem hj, List.getElem?_eq_getElem (show j < qs.length by omega)]
    exact congrArg some this
  · rw [List.getElem?_eq_none (by rw [List.length_map]; omega), List.getElem?_eq_none (by rw [List.length_map]; omega)]
theorem list_ne {ps qs : List (List UInt8)} {k : Nat} (h : ¬ ps.getD k [] = qs.getD k []) : ¬ ps = qs := fun e => h (by rw [e])
theorem list_eq {ps qs : List (List UInt8)} (hl : ps.length = qs.length) (h : ∀ j, j < ps.length → ps.getD j [] = qs.getD j []) : ps = qs := by
  apply List.ext_getElem?
  intro j
  by_cases hj : j < ps.length
  · have := h j hj
    rw [List.getD_eq_getElem?_getD, List.getD_eq_getElem?_getD, List.getElem?_eq_getElem hj, List.getElem?_eq_getElem (show j < qs.length by omega)] at this
    rw [List.getElem?_eq_getElem hj, List.getElem?_eq_getElem (show j < qs.length by omega)]
    exact congrArg some this
  · rw [List.getElem?_eq_none (by omega), List.getElem?_eq_none (by omega)]
set_option maxRecDepth 100000 in
set_option maxHeartbeats 8000000 in
theorem same_on (r r' : Raw) (d i l d' i' l' : Value) (w : World) (hr : RdR w (fun b => b < w.heap.size) r d i l) (hr' : RdR w (fun b => b < w.heap.size) r' d' i' l') (h0 : r.kind = r'.kind) (h1 : r.who = r'.who) (h2 : r.height = r'.height) (h3 : r.round = r'.round) (h4 : r.valid = r'.valid) (h5 : r.num = r'.num) (h6 : id32 r.id = id32 r'.id) (h7 : r.data = r'.data) (h8 : r.ids.length = r'.ids.length) (h9 : r.list.length = r'.list.length) :
    Calls Try.prog 15 #[.agg (msgA r d i l), .agg (msgA r' d' i' l')] w fun e w' => e = .returned (.bool (decide (r.ids.map id32 = r'.ids.map id32 ∧ r.list = r'.list))) ∧ Below w.heap.size w w' := by
  obtain ⟨rk, rwh, rhe, rro, rva, rnu, rid, rda, rids, rls⟩ := r'
  simp only at h0 h1 h2 h3 h4 h5 h6 h7 h8 h9
  subst h0 h1 h2 h3 h4 h5
  subst h7
  have b1 : Blk ((w.alloc (.cells (msgA r d i l) 28)).alloc (.cells (msgA ⟨r.kind, r.who, r.height, r.round, r.valid, r.num, rid, r.data, rids, rls⟩ d' i' l') 28)) w.heap.size 28 (msgA r d i l) := (Blk.new _ _ _).alloc _
  have b2 : Blk ((w.alloc (.cells (msgA r d i l) 28)).alloc (.cells (msgA ⟨r.kind, r.who, r.height, r.round, r.valid, r.num, rid, r.data, rids, rls⟩ d' i' l') 28)) (w.heap.size + 1) 28 (msgA ⟨r.kind, r.who, r.height, r.round, r.valid, r.num, rid, r.data, rids, rls⟩ d' i' l') := Blk.newAt _ _ (by simp) rfl
  have hb : Below w.heap.size w ((w.alloc (.cells (msgA r d i l) 28)).alloc (.cells (msgA ⟨r.kind, r.who, r.height, r.round, r.valid, r.num, rid, r.data, rids, rls⟩ d' i' l') 28)) := ((Below.refl _ _).alloc (Nat.le_refl _) _).alloc (by simp) _
  obtain ⟨x0, x1, x2, x3, x4, x5, x6, x7, x8⟩ := msg_cells b1
  obtain ⟨y0, y1, y2, y3, y4, y5, y6, y7, y8⟩ := msg_cells b2
  have g1 := id_range b1
  have g2 := id_range b2
  rw [← h6] at g2
  obtain ⟨cid, hcid⟩ : ∃ cid, (id32 r.id).map Extern.Stop.cell = cid := ⟨_, rfl⟩
  have hcl : cid.length = 32 := by rw [← hcid]; simp [id32]
  have hnq : ∀ w', (binOp .neq 23 (.agg cid.toArray) (.agg cid.toArray)).run Try.prog w' = .ok (.bool false) w' := fun w' => by
    have := neq_id r.id r.id w'
    rw [arr_id32, hcid] at this
    rw [this]
    simp
  rw [hcid] at g1 g2
  have HNQ := Lib.hid hnq
  clear hnq
  have G1 := Lib.hid g1
  have G2 := Lib.hid g2
  have HCL := Lib.hid hcl
  have hr1 := hr.below hb
  have hr1' := hr'.below hb
  have HB := Lib.hid hb
  generalize hM : msgA r d i l = M at *
  generalize hM' : msgA ⟨r.kind, r.who, r.height, r.round, r.valid, r.num, rid, r.data, rids, rls⟩ d' i' l' = M' at *
  clear hM hM' b1 b2
  obtain ⟨⟨Ad, cd, rfl, -⟩, ⟨Ai, ci, rfl, -⟩, ⟨Al, cl, rfl, -⟩⟩ := id hr1
  obtain ⟨⟨Ad', cd', rfl, -⟩, ⟨Ai', ci', rfl, -⟩, ⟨Al', cl', rfl, -⟩⟩ := id hr1'
  simp only at hr1' x6 x7 x8 y6 y7 y8
  have v1 := str_rd hr1.data
  have v2 := str_rd hr1'.data
  simp only at v1 v2
  obtain ⟨nd, hnd⟩ : ∃ nd, r.data.length = nd := ⟨_, rfl⟩
  rw [hnd] at x6 y6 v1 v2
  obtain ⟨ni, hni⟩ : ∃ ni, r.ids.length = ni := ⟨_, rfl⟩
  obtain ⟨nl, hnl⟩ : ∃ nl, r.list.length = nl := ⟨_, rfl⟩
  rw [hni] at x7 h8
  rw [hnl] at x8 h9
  rw [← h8] at y7
  rw [← h9] at y8
  have HI : Hid (RdI ((w.alloc (.cells M 28)).alloc (.cells M' 28)) (fun b => b < w.heap.size) Ai r.ids) := Lib.hid (by obtain ⟨A, c, e, _, h⟩ := hr1.ids; injection e with e1; subst e1; exact h)
  have HI' : Hid (RdI ((w.alloc (.cells M 28)).alloc (.cells M' 28)) (fun b => b < w.heap.size) Ai' rids) := Lib.hid (by obtain ⟨A, c, e, _, h⟩ := hr1'.ids; injection e with e1; subst e1; exact h)
  have HL : Hid (RdP ((w.alloc (.cells M 28)).alloc (.cells M' 28)) (fun b => b < w.heap.size) Al r.list) := Lib.hid (by obtain ⟨A, c, e, _, h⟩ := hr1.list; injection e with e1; subst e1; exact h)
  have HL' : Hid (RdP ((w.alloc (.cells M 28)).alloc (.cells M' 28)) (fun b => b < w.heap.size) Al' rls) := Lib.hid (by obtain ⟨A, c, e, _, h⟩ := hr1'.list; injection e with e1; subst e1; exact h)
  have HZ : Hid (((w.alloc (.cells M 28)).alloc (.cells M' 28)).heap.size = w.heap.size + 2) := Lib.hid (by simp)
  have HN := Lib.hid (And.intro hni (And.intro hnl (And.intro h8.symm h9.symm)))
  obtain ⟨res, hres⟩ : ∃ res, decide (r.ids.map id32 = rids.map id32 ∧ r.list = rls) = res := ⟨_, rfl⟩
  rw [hres]
  have HRES := Lib.hid hres
  have hni64 : ni ≤ 140737488351232 := by obtain ⟨_, _, _, h, _⟩ := hr1.ids; omega
  have hnl64 : nl ≤ 140737488351232 := by obtain ⟨_, _, _, h, _⟩ := hr1.list; omega
  clear hb hr hr' hr1 hr1' hni hnl hnd hcid g1 g2 hcl h6 h8 h9 hres
  go_enter Try.func15, Try.ntmps15
  repeat (first
    | (guard_target = wpList _ _ _ (Oper.mk _ (.load 23 _) _ _ _ _ :: _) _ _; refine wpList_load_midG (by rfl) 23 _ rfl w.heap.size 6 rfl cid _ G1.out Try.underlying23 rfl (by rw [HCL.out]; kernel_rfl) ?_)
    | (guard_target = wpList _ _ _ (Oper.mk _ (.load 23 _) _ _ _ _ :: _) _ _; refine wpList_load_midG (by rfl) 23 _ rfl (w.heap.size + 1) 6 rfl cid _ G2.out Try.underlying23 rfl (by rw [HCL.out]; kernel_rfl) ?_)
    | (guard_target = wpList _ _ _ (Oper.mk _ (.binOp .neq 23 _ _ _) _ _ _ _ :: _) _ _; refine wpList_binG (by rfl) .neq 23 _ _ _ rfl (.agg cid.toArray) (.agg cid.toArray) rfl rfl (.bool false) (run_eqGuard_agg _ _ _ _ _ _ _ (by kernel_rfl)) (HNQ.out _) ?_; clear G1 G2 HNQ HCL)
    | go_values | go_skip | go_guarded | go_step | go_upon)
  generalize hWW : (w.alloc (.cells M 28)).alloc (.cells M' 28) = W2 at *
  clear x0 x1 x2 x3 x4 x5 x6 y0 y1 y2 y3 y4 y5 y6 v1 v2 hWW
  have X7 := Lib.hid x7
  have Y7 := Lib.hid y7
  have X8 := Lib.hid x8
  have Y8 := Lib.hid y8
  clear x7 x8 y7 y8
  go_loopw [5] (fun i wr => ∃ k : Nat, k ≤ ni ∧ i = .int .i64 (k : Int) ∧ (∀ j, j < k → id32 (r.ids.getD j fun _ => 0) = id32 (rids.getD j fun _ => 0)) ∧ Below W2.heap.size W2 wr) (fun i _ => ni - (intOf i).toNat)
  case atStart => exact ⟨0, by omega, rfl, fun j hj => absurd hj (by omega), Below.refl _ _⟩
  case round =>
    obtain ⟨k, hk, rfl, heqs, hW⟩ := hrel
    have hs2 := HZ.out
    have c39 := (hW.cell (p := ⟨w.heap.size, 39, none⟩) (show w.heap.size < W2.heap.size by omega)).trans X7.out
    have d39 := (hW.cell (p := ⟨w.heap.size + 1, 39, none⟩) (show w.heap.size + 1 < W2.heap.size by omega)).trans Y7.out
    have HE := Lib.hid heqs
    have HW := Lib.hid hW
    clear heqs hW hs2
    by_cases hlt : k < ni
    · obtain ⟨ad, rfl, hok, hcell⟩ := (HI.out.kept (W' := wr) fun a x ha h => (HW.out.cell (p := a) (by have := HZ.out; have : a.block < w.heap.size := ha; omega)).trans h) k (by rw [HN.out.1]; exact hlt)
      obtain ⟨ad', rfl, hok', hcell'⟩ := (HI'.out.kept (W' := wr) fun a x ha h => (HW.out.cell (p := a) (by have := HZ.out; have : a.block < w.heap.size := ha; omega)).trans h) k (by rw [HN.out.2.2.1]; exact hlt)
      have hkn : (k : Int) < (ni : Int) := by omega
      obtain ⟨f, hf⟩ : ∃ f, (r.ids.getD k fun _ => 0) = f := ⟨_, rfl⟩
      obtain ⟨f', hf'⟩ : ∃ f, (rids.getD k fun _ => 0) = f := ⟨_, rfl⟩
      rw [hf] at hcell
      rw [hf'] at hcell'
      have HF := Lib.hid (And.intro hf hf')
      have HM : Hid (32 * k = k * 32) := Lib.hid (Nat.mul_comm _ _)
      have q : Below wr.heap.size wr wr.drew := (Below.refl _ _).drew
      have hkb : w.heap.size + 1 < wr.heap.size := by have := HW.out.size; have := HZ.out; omega
      have ALL : Hid (∀ W', Below wr.heap.size wr W' → (fun w' => w'.cell? ⟨w.heap.size, 39, none⟩ = some (.slice (some ad) ni ci) ∧ w'.cell? ⟨w.heap.size + 1, 39, none⟩ = some (.slice (some ad') ni ci') ∧ (∀ i, i < 32 → w'.cell? ((ad.add (32 * k)).add i) = some (bv (f i))) ∧ ∀ i, i < 32 → w'.cell? ((ad'.add (32 * k)).add i) = some (bv (f' i))) W') := Lib.hid fun W' hb' =>
        ⟨(hb'.cell (p := ⟨w.heap.size, 39, none⟩) (show w.heap.size < wr.heap.size by omega)).trans c39, (hb'.cell (p := ⟨w.heap.size + 1, 39, none⟩) hkb).trans d39, fun i hi => by rw [add_add]; exact (hb'.cell (p := ad.add (32 * k + i)) (by rw [block_add]; have : ad.block < w.heap.size := hok; omega)).trans (hcell i hi), fun i hi => by rw [add_add]; exact (hb'.cell (p := ad'.add (32 * k + i)) (by rw [block_add]; have : ad'.block < w.heap.size := hok'; omega)).trans (hcell' i hi)⟩
      have hnq := neq_id f f'
      by_cases he : id32 f = id32 f'
      · rw [show (id32 f == id32 f') = true from by simpa using he, Bool.not_true] at hnq
        have HNQ := Lib.hid hnq
        have HEQ := Lib.hid he
        clear hcell hcell' hok hok' hf hf' hnq he hkb
        go_wp2
        refine wp_region_held_drew (S := fun w' => w'.cell? ⟨w.heap.size, 39, none⟩ = some (.slice (some ad) ni ci) ∧ w'.cell? ⟨w.heap.size + 1, 39, none⟩ = some (.slice (some ad') ni ci') ∧ (∀ i, i < 32 → w'.cell? ((ad.add (32 * k)).add i) = some (bv (f i))) ∧ ∀ i, i < 32 → w'.cell? ((ad'.add (32 * k)).add i) = some (bv (f' i))) (by kernel_rfl) ?_ (fun hHeld => ?_)
        · exact ALL.out _ q
        refine wpAnyH_take (i := 0) (oi := ⟨some 88, _, _, _, _, _⟩) (v := ?_) rfl (by kernel_rfl) (by kernel_rfl) (by kernel_rfl) (fun _ _ _ h => h) (Or.inl ⟨by rfl, ?_⟩) (by assumption) ?_
        rotate_left
        · intro w hSw; (try dsimp only at hSw); go_simp; try (with_reducible rfl)
        rotate_left 0
        try simp only [Act.put, List.setIfInBounds_toArray, List.set_cons_zero, List.set_cons_succ]
        refine wpAnyH_take (i := 1) (oi := ⟨some 89, _, _, _, _, _⟩) (v := ?_) rfl (by kernel_rfl) (by kernel_rfl) (by kernel_rfl) (fun _ _ _ h => h) (Or.inl ⟨by rfl, ?_⟩) (by assumption) ?_
        rotate_left
        · intro w hSw; (try dsimp only at hSw); go_simp; try (with_reducible rfl)
        rotate_left 0
        try simp only [Act.put, List.setIfInBounds_toArray, List.set_cons_zero, List.set_cons_succ]
        refine wpAnyH_take (i := 2) (oi := ⟨some 90, _, _, _, _, _⟩) (v := ?_) rfl (by kernel_rfl) (by kernel_rfl) (by kernel_rfl) (fun _ _ _ h => h) (Or.inl ⟨by rfl, ?_⟩) (by assumption) ?_
        rotate_left
        · intro w hSw; (try dsimp only at hSw); go_simp; try (with_reducible rfl)
        rotate_left 0
        try simp only [Act.put, List.setIfInBounds_toArray, List.set_cons_zero, List.set_cons_succ]
        refine wpAnyH_take (i := 3) (oi := ⟨some 91, _, _, _, _, _⟩) (v := ?_) rfl (by kernel_rfl) (by kernel_rfl) (by kernel_rfl) (fun _ _ _ h => h) (Or.inl ⟨by rfl, ?_⟩) (by assumption) ?_
        rotate_left
        · intro w hSw; (try dsimp only at hSw); go_simp; try (with_reducible rfl)
        rotate_left 0
        try simp only [Act.put, List.setIfInBounds_toArray, List.set_cons_zero, List.set_cons_succ]
        refine wpAnyH_take (i := 4) (oi := ⟨some 92, _, _, _, _, _⟩) (v := .agg (arr 32 fun i => bv (f i))) rfl (by kernel_rfl) (by kernel_rfl) (by kernel_rfl) (fun _ _ _ h => h) (yieldsIf_load_at (by rfl) _ _ rfl (ad.add (32 * k)) (by first | rfl | (rw [HM.out]; rfl)) 32 _ 5 (fun _ hS => hS.2.2.1) Try.underlying23 (by kernel_rfl)) (by assumption) ?_
        try simp only [Act.put, List.setIfInBounds_toArray, List.set_cons_zero, List.set_cons_succ]
        refine wpAnyH_take (i := 5) (oi := ⟨some 93, _, _, _, _, _⟩) (v := ?_) rfl (by kernel_rfl) (by kernel_rfl) (by kernel_rfl) (fun _ _ _ h => h) (Or.inl ⟨by rfl, ?_⟩) (by assumption) ?_
        rotate_left
        · intro w hSw; (try dsimp only at hSw); go_simp; try (with_reducible rfl)
        rotate_left 0
        try simp only [Act.put, List.setIfInBounds_toArray, List.set_cons_zero, List.set_cons_succ]
        refine wpAnyH_take (i := 6) (oi := ⟨some 94, _, _, _, _, _⟩) (v := ?_) rfl (by kernel_rfl) (by kernel_rfl) (by kernel_rfl) (fun _ _ _ h => h) (Or.inl ⟨by rfl, ?_⟩) (by assumption) ?_
        rotate_left
        · intro w hSw; (try dsimp only at hSw); go_simp; try (with_reducible rfl)
        rotate_left 0
        try simp only [Act.put, List.setIfInBounds_toArray, List.set_cons_zero, List.set_cons_succ]
        refine wpAnyH_take (i := 7) (oi := ⟨some 95, _, _, _, _, _⟩) (v := ?_) rfl (by kernel_rfl) (by kernel_rfl) (by kernel_rfl) (fun _ _ _ h => h) (Or.inl ⟨by rfl, ?_⟩) (by assumption) ?_
        rotate_left
        · intro w hSw; (try dsimp only at hSw); go_simp; try (with_reducible rfl)
        rotate_left 0
        try simp only [Act.put, List.setIfInBounds_toArray, List.set_cons_zero, List.set_cons_succ]
        refine wpAnyH_take (i := 8) (oi := ⟨some 96, _, _, _, _, _⟩) (v := ?_) rfl (by kernel_rfl) (by kernel_rfl) (by kernel_rfl) (fun _ _ _ h => h) (Or.inl ⟨by rfl, ?_⟩) (by assumption) ?_
        rotate_left
        · intro w hSw; (try dsimp only at hSw); go_simp; try (with_reducible rfl)
        rotate_left 0
        try simp only [Act.put, List.setIfInBounds_toArray, List.set_cons_zero, List.set_cons_succ]
        refine wpAnyH_take (i := 9) (oi := ⟨some 97, _, _, _, _, _⟩) (v := .agg (arr 32 fun i => bv (f' i))) rfl (by kernel_rfl) (by kernel_rfl) (by kernel_rfl) (fun _ _ _ h => h) (yieldsIf_load_at (by rfl) _ _ rfl (ad'.add (32 * k)) (by first | rfl | (rw [HM.out]; rfl)) 32 _ 5 (fun _ hS => hS.2.2.2) Try.underlying23 (by kernel_rfl)) (by assumption) ?_
        try simp only [Act.put, List.setIfInBounds_toArray, List.set_cons_zero, List.set_cons_succ]
        refine wpAnyH_take (i := 10) (oi := ⟨some 98, _, _, _, _, _⟩) (v := .bool false) rfl (by kernel_rfl) (by kernel_rfl) (by kernel_rfl) (fun _ _ _ h => h) (yieldsIf_bin (by rfl) .neq 23 _ _ _ rfl (.agg (arr 32 fun i => bv (f i))) (.agg (arr 32 fun i => bv (f' i))) rfl rfl _ (fun _ => run_eqGuard_agg _ _ _ _ _ _ _ (by kernel_rfl)) HNQ.out) (by assumption) ?_
        try simp only [Act.put, List.setIfInBounds_toArray, List.set_cons_zero, List.set_cons_succ]
        refine wpAnyH_done (by kernel_rfl) ?_ _
        clear hHeld ALL HNQ c39 d39
        go_wp2
        go_roundw
        case rel =>
          refine ⟨k + 1, by omega, by go_num, fun j hj => ?_, HW.out.trans (q.mono HW.out.size)⟩
          rcases Nat.lt_or_ge j k with h | h
          · exact HE.out j h
          · obtain rfl : j = k := by omega
            rw [HF.out.1, HF.out.2]
            exact HEQ.out
        case measure => simp [intOf]; omega
      · have hno : res = false := by
          rw [← HRES.out]
          exact decide_eq_false fun h => map_ne (k := k) (by rw [HN.out.1]; exact hlt) (by rw [HN.out.1, HN.out.2.2.1]) (by rw [hf, hf']; exact he) h.1
        rw [show (id32 f == id32 f') = false from by simpa using he, Bool.not_false] at hnq
        have HNQ := Lib.hid hnq
        subst hno
        clear hcell hcell' hok hok' hf hf' hnq he hkb
        go_wp2
        refine wp_region_held_drew (S := fun w' => w'.cell? ⟨w.heap.size, 39, none⟩ = some (.slice (some ad) ni ci) ∧ w'.cell? ⟨w.heap.size + 1, 39, none⟩ = some (.slice (some ad') ni ci') ∧ (∀ i, i < 32 → w'.cell? ((ad.add (32 * k)).add i) = some (bv (f i))) ∧ ∀ i, i < 32 → w'.cell? ((ad'.add (32 * k)).add i) = some (bv (f' i))) (by kernel_rfl) ?_ (fun hHeld => ?_)
        · exact ALL.out _ q
        refine wpAnyH_take (i := 0) (oi := ⟨some 88, _, _, _, _, _⟩) (v := ?_) rfl (by kernel_rfl) (by kernel_rfl) (by kernel_rfl) (fun _ _ _ h => h) (Or.inl ⟨by rfl, ?_⟩) (by assumption) ?_
        rotate_left
        · intro w hSw; (try dsimp only at hSw); go_simp; try (with_reducible rfl)
        rotate_left 0
        try simp only [Act.put, List.setIfInBounds_toArray, List.set_cons_zero, List.set_cons_succ]
        refine wpAnyH_take (i := 1) (oi := ⟨some 89, _, _, _, _, _⟩) (v := ?_) rfl (by kernel_rfl) (by kernel_rfl) (by kernel_rfl) (fun _ _ _ h => h) (Or.inl ⟨by rfl, ?_⟩) (by assumption) ?_
        rotate_left
        · intro w hSw; (try dsimp only at hSw); go_simp; try (with_reducible rfl)
        rotate_left 0
        try simp only [Act.put, List.setIfInBounds_toArray, List.set_cons_zero, List.set_cons_succ]
        refine wpAnyH_take (i := 2) (oi := ⟨some 90, _, _, _, _, _⟩) (v := ?_) rfl (by kernel_rfl) (by kernel_rfl) (by kernel_rfl) (fun _ _ _ h => h) (Or.inl ⟨by rfl, ?_⟩) (by assumption) ?_
        rotate_left
        · intro w hSw; (try dsimp only at hSw); go_simp; try (with_reducible rfl)
        rotate_left 0
        try simp only [Act.put, List.setIfInBounds_toArray, List.set_cons_zero, List.set_cons_succ]
        refine wpAnyH_take (i := 3) (oi := ⟨some 91, _, _, _, _, _⟩) (v := ?_) rfl (by kernel_rfl) (by kernel_rfl) (by kernel_rfl) (fun _ _ _ h => h) (Or.inl ⟨by rfl, ?_⟩) (by assumption) ?_
        rotate_left
        · intro w hSw; (try dsimp only at hSw); go_simp; try (with_reducible rfl)
        rotate_left 0
        try simp only [Act.put, List.setIfInBounds_toArray, List.set_cons_zero, List.set_cons_succ]
        refine wpAnyH_take (i := 4) (oi := ⟨some 92, _, _, _, _, _⟩) (v := .agg (arr 32 fun i => bv (f i))) rfl (by kernel_rfl) (by kernel_rfl) (by kernel_rfl) (fun _ _ _ h => h) (yieldsIf_load_at (by rfl) _ _ rfl (ad.add (32 * k)) (by first | rfl | (rw [HM.out]; rfl)) 32 _ 5 (fun _ hS => hS.2.2.1) Try.underlying23 (by kernel_rfl)) (by assumption) ?_
        try simp only [Act.put, List.setIfInBounds_toArray, List.set_cons_zero, List.set_cons_succ]
        refine wpAnyH_take (i := 5) (oi := ⟨some 93, _, _, _, _, _⟩) (v := ?_) rfl (by kernel_rfl) (by kernel_rfl) (by kernel_rfl) (fun _ _ _ h => h) (Or.inl ⟨by rfl, ?_⟩) (by assumption) ?_
        rotate_left
        · intro w hSw; (try dsimp only at hSw); go_simp; try (with_reducible rfl)
        rotate_left 0
        try simp only [Act.put, List.setIfInBounds_toArray, List.set_cons_zero, List.set_cons_succ]
        refine wpAnyH_take (i := 6) (oi := ⟨some 94, _, _, _, _, _⟩) (v := ?_) rfl (by kernel_rfl) (by kernel_rfl) (by kernel_rfl) (fun _ _ _ h => h) (Or.inl ⟨by rfl, ?_⟩) (by assumption) ?_
        rotate_left
        · intro w hSw; (try dsimp only at hSw); go_simp; try (with_reducible rfl)
        rotate_left 0
        try simp only [Act.put, List.setIfInBounds_toArray, List.set_cons_zero, List.set_cons_succ]
        refine wpAnyH_take (i := 7) (oi := ⟨some 95, _, _, _, _, _⟩) (v := ?_) rfl (by kernel_rfl) (by kernel_rfl) (by kernel_rfl) (fun _ _ _ h => h) (Or.inl ⟨by rfl, ?_⟩) (by assumption) ?_
        rotate_left
        · intro w hSw; (try dsimp only at hSw); go_simp; try (with_reducible rfl)
        rotate_left 0
        try simp only [Act.put, List.setIfInBounds_toArray, List.set_cons_zero, List.set_cons_succ]
        refine wpAnyH_take (i := 8) (oi := ⟨some 96, _, _, _, _, _⟩) (v := ?_) rfl (by kernel_rfl) (by kernel_rfl) (by kernel_rfl) (fun _ _ _ h => h) (Or.inl ⟨by rfl, ?_⟩) (by assumption) ?_
        rotate_left
        · intro w hSw; (try dsimp only at hSw); go_simp; try (with_reducible rfl)
        rotate_left 0
        try simp only [Act.put, List.setIfInBounds_toArray, List.set_cons_zero, List.set_cons_succ]
        refine wpAnyH_take (i := 9) (oi := ⟨some 97, _, _, _, _, _⟩) (v := .agg (arr 32 fun i => bv (f' i))) rfl (by kernel_rfl) (by kernel_rfl) (by kernel_rfl) (fun _ _ _ h => h) (yieldsIf_load_at (by rfl) _ _ rfl (ad'.add (32 * k)) (by first | rfl | (rw [HM.out]; rfl)) 32 _ 5 (fun _ hS => hS.2.2.2) Try.underlying23 (by kernel_rfl)) (by assumption) ?_
        try simp only [Act.put, List.setIfInBounds_toArray, List.set_cons_zero, List.set_cons_succ]
        refine wpAnyH_take (i := 10) (oi := ⟨some 98, _, _, _, _, _⟩) (v := .bool true) rfl (by kernel_rfl) (by kernel_rfl) (by kernel_rfl) (fun _ _ _ h => h) (yieldsIf_bin (by rfl) .neq 23 _ _ _ rfl (.agg (arr 32 fun i => bv (f i))) (.agg (arr 32 fun i => bv (f' i))) rfl rfl _ (fun _ => run_eqGuard_agg _ _ _ _ _ _ _ (by kernel_rfl)) HNQ.out) (by assumption) ?_
        try simp only [Act.put, List.setIfInBounds_toArray, List.set_cons_zero, List.set_cons_succ]
        refine wpAnyH_done (by kernel_rfl) ?_ _
        clear hHeld ALL HNQ c39 d39
        go_wp2
        go_ret
        exact ⟨rfl, HB.out.trans ((HW.out.trans (q.mono HW.out.size)).mono (by have := HZ.out; omega))⟩
    · obtain rfl : k = ni := by omega
      have HIDS := Lib.hid (map_eq (ps := r.ids) (qs := rids) (by rw [HN.out.1, HN.out.2.2.1]) (fun j hj => HE.out j (by rw [HN.out.1] at hj; exact hj)))
      clear HE d39
      go_wp2
      clear c39
      go_loopw [6] (fun i wr => ∃ k : Nat, k ≤ nl ∧ i = .int .i64 (k : Int) ∧ (∀ j, j < k → r.list.getD j [] = rls.getD j []) ∧ Below W2.heap.size W2 wr) (fun i _ => nl - (intOf i).toNat)
      case atStart => exact ⟨0, by omega, rfl, fun j hj => absurd hj (by omega), HW.out⟩
      case round =>
        clear HW
        obtain ⟨k, hk, rfl, heqs, hW⟩ := hrel
        have hs2 := HZ.out
        have c40 := (hW.cell (p := ⟨w.heap.size, 40, none⟩) (show w.heap.size < W2.heap.size by omega)).trans X8.out
        have d40 := (hW.cell (p := ⟨w.heap.size + 1, 40, none⟩) (show w.heap.size + 1 < W2.heap.size by omega)).trans Y8.out
        have HE := Lib.hid heqs
        have HW := Lib.hid hW
        clear heqs hW hs2
        by_cases hlt : k < nl
        · obtain ⟨ad, v, rfl, hok, hcell, hread⟩ := (HL.out.kept (W' := wr) fun a x ha h => (HW.out.cell (p := a) (by have := HZ.out; have : a.block < w.heap.size := ha; omega)).trans h) k (by rw [HN.out.2.1]; exact hlt)
          obtain ⟨ad', v', rfl, hok', hcell', hread'⟩ := (HL'.out.kept (W' := wr) fun a x ha h => (HW.out.cell (p := a) (by have := HZ.out; have : a.block < w.heap.size := ha; omega)).trans h) k (by rw [HN.out.2.2.2]; exact hlt)
          have hkn : (k : Int) < (nl : Int) := by omega
          obtain ⟨p, hp⟩ : ∃ p, r.list.getD k [] = p := ⟨_, rfl⟩
          obtain ⟨p1, hp1⟩ : ∃ p, rls.getD k [] = p := ⟨_, rfl⟩
          rw [hp] at hread
          rw [hp1] at hread'
          have HF := Lib.hid (And.intro hp hp1)
          obtain ⟨A0, c0, rfl, -⟩ := id hread
          obtain ⟨A1, c1, rfl, -⟩ := id hread'
          obtain ⟨m, hm⟩ : ∃ m, p.length = m := ⟨_, rfl⟩
          obtain ⟨m1, hm1⟩ : ∃ m, p1.length = m := ⟨_, rfl⟩
          rw [hm] at hread hcell
          rw [hm1] at hread' hcell'
          have q : Below wr.heap.size wr wr.drew := (Below.refl _ _).drew
          have hkb : w.heap.size + 1 < wr.heap.size := by have := HW.out.size; have := HZ.out; omega
          have ALL : Hid (∀ W', Below wr.heap.size wr W' → (fun w' => RdB w' (fun b => b < w.heap.size) (.slice A0 m c0) p ∧ RdB w' (fun b => b < w.heap.size) (.slice A1 m1 c1) p1 ∧ w'.cell? ⟨w.heap.size, 40, none⟩ = some (.slice (some ad) nl cl) ∧ w'.cell? ⟨w.heap.size + 1, 40, none⟩ = some (.slice (some ad') nl cl') ∧ w'.cell? (ad.add k) = some (.slice A0 m c0) ∧ w'.cell? (ad'.add k) = some (.slice A1 m1 c1)) W') := Lib.hid fun W' hb' =>
            ⟨hread.kept fun a x ha h => (hb'.cell (p := a) (by have : a.block < w.heap.size := ha; omega)).trans h, hread'.kept fun a x ha h => (hb'.cell (p := a) (by have : a.block < w.heap.size := ha; omega)).trans h, (hb'.cell (p := ⟨w.heap.size, 40, none⟩) (show w.heap.size < wr.heap.size by omega)).trans c40, (hb'.cell (p := ⟨w.heap.size + 1, 40, none⟩) hkb).trans d40, (hb'.cell (p := ad.add k) (by rw [block_add]; have : ad.block < w.heap.size := hok; omega)).trans hcell, (hb'.cell (p := ad'.add k) (by rw [block_add]; have : ad'.block < w.heap.size := hok'; omega)).trans hcell'⟩
          have hnq := neq_str p p1
          by_cases he : p = p1
          · rw [show (p == p1) = true from by simpa using he, Bool.not_true] at hnq
            have HNQ := Lib.hid hnq
            have HEQ := Lib.hid he
            clear hcell hcell' hok hok' hp hp1 hnq he hkb hread hread' hm hm1
            go_wp2
            refine wp_region_held_drew (S := fun w' => RdB w' (fun b => b < w.heap.size) (.slice A0 m c0) p ∧ RdB w' (fun b => b < w.heap.size) (.slice A1 m1 c1) p1 ∧ w'.cell? ⟨w.heap.size, 40, none⟩ = some (.slice (some ad) nl cl) ∧ w'.cell? ⟨w.heap.size + 1, 40, none⟩ = some (.slice (some ad') nl cl') ∧ w'.cell? (ad.add k) = some (.slice A0 m c0) ∧ w'.cell? (ad'.add k) = some (.slice A1 m1 c1)) (by kernel_rfl) ?_ (fun hHeld => ?_)
            · exact ALL.out _ q
            refine wpAnyH_take (i := 0) (oi := ⟨some 106, _, _, _, _, _⟩) (v := ?_) rfl (by kernel_rfl) (by kernel_rfl) (by kernel_rfl) (fun _ _ _ h => h) (Or.inl ⟨by rfl, ?_⟩) (by assumption) ?_
            rotate_left
            · intro w hSw; (try dsimp only at hSw); go_simp; try (with_reducible rfl)
            rotate_left 0
            try simp only [Act.put, List.setIfInBounds_toArray, List.set_cons_zero, List.set_cons_succ]
            refine wpAnyH_take (i := 1) (oi := ⟨some 107, _, _, _, _, _⟩) (v := ?_) rfl (by kernel_rfl) (by kernel_rfl) (by kernel_rfl) (fun _ _ _ h => h) (Or.inl ⟨by rfl, ?_⟩) (by assumption) ?_
            rotate_left
            · intro w hSw; (try dsimp only at hSw); go_simp; try (with_reducible rfl)
            rotate_left 0
            try simp only [Act.put, List.setIfInBounds_toArray, List.set_cons_zero, List.set_cons_succ]
            refine wpAnyH_take (i := 2) (oi := ⟨some 108, _, _, _, _, _⟩) (v := ?_) rfl (by kernel_rfl) (by kernel_rfl) (by kernel_rfl) (fun _ _ _ h => h) (Or.inl ⟨by rfl, ?_⟩) (by assumption) ?_
            rotate_left
            · intro w hSw; (try dsimp only at hSw); go_simp; try (with_reducible rfl)
            rotate_left 0
            try simp only [Act.put, List.setIfInBounds_toArray, List.set_cons_zero, List.set_cons_succ]
            refine wpAnyH_take (i := 3) (oi := ⟨some 109, _, _, _, _, _⟩) (v := ?_) rfl (by kernel_rfl) (by kernel_rfl) (by kernel_rfl) (fun _ _ _ h => h) (Or.inl ⟨by rfl, ?_⟩) (by assumption) ?_
            rotate_left
            · intro w hSw; (try dsimp only at hSw); go_simp; try (with_reducible rfl)
            rotate_left 0
            try simp only [Act.put, List.setIfInBounds_toArray, List.set_cons_zero, List.set_cons_succ]
            refine wpAnyH_take (i := 4) (oi := ⟨some 110, _, _, _, _, _⟩) (v := ?_) rfl (by kernel_rfl) (by kernel_rfl) (by kernel_rfl) (fun _ _ _ h => h) (Or.inl ⟨by rfl, ?_⟩) (by assumption) ?_
            rotate_left
            · intro w hSw; (try dsimp only at hSw); go_simp; try (with_reducible rfl)
            rotate_left 0
            try simp only [Act.put, List.setIfInBounds_toArray, List.set_cons_zero, List.set_cons_succ]
            refine wpAnyH_take (i := 5) (oi := ⟨some 111, _, _, _, _, _⟩) (v := .string ⟨p.toArray⟩) rfl (by kernel_rfl) (by kernel_rfl) (by kernel_rfl) (fun _ _ _ h => h) (Or.inl ⟨by rfl, ?_⟩) (by assumption) ?_
            · intro w' hSw; have hcv := str_rd (hSw.1); (try dsimp only at hSw); go_simp
            try simp only [Act.put, List.setIfInBounds_toArray, List.set_cons_zero, List.set_cons_succ]
            refine wpAnyH_take (i := 6) (oi := ⟨some 112, _, _, _, _, _⟩) (v := ?_) rfl (by kernel_rfl) (by kernel_rfl) (by kernel_rfl) (fun _ _ _ h => h) (Or.inl ⟨by rfl, ?_⟩) (by assumption) ?_
            rotate_left
            · intro w hSw; (try dsimp only at hSw); go_simp; try (with_reducible rfl)
            rotate_left 0
            try simp only [Act.put, List.setIfInBounds_toArray, List.set_cons_zero, List.set_cons_succ]
            refine wpAnyH_take (i := 7) (oi := ⟨some 113, _, _, _, _, _⟩) (v := ?_) rfl (by kernel_rfl) (by kernel_rfl) (by kernel_rfl) (fun _ _ _ h => h) (Or.inl ⟨by rfl, ?_⟩) (by assumption) ?_
            rotate_left
            · intro w hSw; (try dsimp only at hSw); go_simp; try (with_reducible rfl)
            rotate_left 0
            try simp only [Act.put, List.setIfInBounds_toArray, List.set_cons_zero, List.set_cons_succ]
            refine wpAnyH_take (i := 8) (oi := ⟨some 114, _, _, _, _, _⟩) (v := ?_) rfl (by kernel_rfl) (by kernel_rfl) (by kernel_rfl) (fun _ _ _ h => h) (Or.inl ⟨by rfl, ?_⟩) (by assumption) ?_
            rotate_left
            · intro w hSw; (try dsimp only at hSw); go_simp; try (with_reducible rfl)
            rotate_left 0
            try simp only [Act.put, List.setIfInBounds_toArray, List.set_cons_zero, List.set_cons_succ]
            refine wpAnyH_take (i := 9) (oi := ⟨some 115, _, _, _, _, _⟩) (v := ?_) rfl (by kernel_rfl) (by kernel_rfl) (by kernel_rfl) (fun _ _ _ h => h) (Or.inl ⟨by rfl, ?_⟩) (by assumption) ?_
            rotate_left
            · intro w hSw; (try dsimp only at hSw); go_simp; try (with_reducible rfl)
            rotate_left 0
            try simp only [Act.put, List.setIfInBounds_toArray, List.set_cons_zero, List.set_cons_succ]
            refine wpAnyH_take (i := 10) (oi := ⟨some 116, _, _, _, _, _⟩) (v := ?_) rfl (by kernel_rfl) (by kernel_rfl) (by kernel_rfl) (fun _ _ _ h => h) (Or.inl ⟨by rfl, ?_⟩) (by assumption) ?_
            rotate_left
            · intro w hSw; (try dsimp only at hSw); go_simp; try (with_reducible rfl)
            rotate_left 0
            try simp only [Act.put, List.setIfInBounds_toArray, List.set_cons_zero, List.set_cons_succ]
            refine wpAnyH_take (i := 11) (oi := ⟨some 117, _, _, _, _, _⟩) (v := .string ⟨p1.toArray⟩) rfl (by kernel_rfl) (by kernel_rfl) (by kernel_rfl) (fun _ _ _ h => h) (Or.inl ⟨by rfl, ?_⟩) (by assumption) ?_
            · intro w' hSw; have hcv := str_rd (hSw.2.1); (try dsimp only at hSw); go_simp
            try simp only [Act.put, List.setIfInBounds_toArray, List.set_cons_zero, List.set_cons_succ]
            refine wpAnyH_take (i := 12) (oi := ⟨some 118, _, _, _, _, _⟩) (v := .bool false) rfl (by kernel_rfl) (by kernel_rfl) (by kernel_rfl) (fun _ _ _ h => h) (yieldsIf_bin (by rfl) .neq 9 _ _ _ rfl (.string ⟨p.toArray⟩) (.string ⟨p1.toArray⟩) rfl rfl _ (fun _ => rfl) HNQ.out) (by assumption) ?_
            try simp only [Act.put, List.setIfInBounds_toArray, List.set_cons_zero, List.set_cons_succ]
            refine wpAnyH_done (by kernel_rfl) ?_ _
            clear hHeld ALL HNQ c40 d40
            go_wp2
            go_roundw
            case rel =>
              refine ⟨k + 1, by omega, by go_num, fun j hj => ?_, HW.out.trans (q.mono HW.out.size)⟩
              rcases Nat.lt_or_ge j k with h | h
              · exact HE.out j h
              · obtain rfl : j = k := by omega
                rw [HF.out.1, HF.out.2]
                exact HEQ.out
            case measure => simp [intOf]; omega
          · have hno : res = false := by
              rw [← HRES.out]
              exact decide_eq_false fun h => list_ne (k := k) (by rw [hp, hp1]; exact he) h.2
            rw [show (p == p1) = false from by simpa using he, Bool.not_false] at hnq
            have HNQ := Lib.hid hnq
            subst hno
            clear hcell hcell' hok hok' hp hp1 hnq he hkb hread hread' hm hm1
            go_wp2
            refine wp_region_held_drew (S := fun w' => RdB w' (fun b => b < w.heap.size) (.slice A0 m c0) p ∧ RdB w' (fun b => b < w.heap.size) (.slice A1 m1 c1) p1 ∧ w'.cell? ⟨w.heap.size, 40, none⟩ = some (.slice (some ad) nl cl) ∧ w'.cell? ⟨w.heap.size + 1, 40, none⟩ = some (.slice (some ad') nl cl') ∧ w'.cell? (ad.add k) = some (.slice A0 m c0) ∧ w'.cell? (ad'.add k) = some (.slice A1 m1 c1)) (by kernel_rfl) ?_ (fun hHeld => ?_)
            · exact ALL.out _ q
            refine wpAnyH_take (i := 0) (oi := ⟨some 106, _, _, _, _, _⟩) (v := ?_) rfl (by kernel_rfl) (by kernel_rfl) (by kernel_rfl) (fun _ _ _ h => h) (Or.inl ⟨by rfl, ?_⟩) (by assumption) ?_
            rotate_left
            · intro w hSw; (try dsimp only at hSw); go_simp; try (with_reducible rfl)
            rotate_left 0
            try simp only [Act.put, List.setIfInBounds_toArray, List.set_cons_zero, List.set_cons_succ]
            refine wpAnyH_take (i := 1) (oi := ⟨some 107, _, _, _, _, _⟩) (v := ?_) rfl (by kernel_rfl) (by kernel_rfl) (by kernel_rfl) (fun _ _ _ h => h) (Or.inl ⟨by rfl, ?_⟩) (by assumption) ?_
            rotate_left
            · intro w hSw; (try dsimp only at hSw); go_simp; try (with_reducible rfl)
            rotate_left 0
            try simp only [Act.put, List.setIfInBounds_toArray, List.set_cons_zero, List.set_cons_succ]
            refine wpAnyH_take (i := 2) (oi := ⟨some 108, _, _, _, _, _⟩) (v := ?_) rfl (by kernel_rfl) (by kernel_rfl) (by kernel_rfl) (fun _ _ _ h => h) (Or.inl ⟨by rfl, ?_⟩) (by assumption) ?_
            rotate_left
            · intro w hSw; (try dsimp only at hSw); go_simp; try (with_reducible rfl)
            rotate_left 0
            try simp only [Act.put, List.setIfInBounds_toArray, List.set_cons_zero, List.set_cons_succ]
            refine wpAnyH_take (i := 3) (oi := ⟨some 109, _, _, _, _, _⟩) (v := ?_) rfl (by kernel_rfl) (by kernel_rfl) (by kernel_rfl) (fun _ _ _ h => h) (Or.inl ⟨by rfl, ?_⟩) (by assumption) ?_
            rotate_left
            · intro w hSw; (try dsimp only at hSw); go_simp; try (with_reducible rfl)
            rotate_left 0
            try simp only [Act.put, List.setIfInBounds_toArray, List.set_cons_zero, List.set_cons_succ]
            refine wpAnyH_take (i := 4) (oi := ⟨some 110, _, _, _, _, _⟩) (v := ?_) rfl (by kernel_rfl) (by kernel_rfl) (by kernel_rfl) (fun _ _ _ h => h) (Or.inl ⟨by rfl, ?_⟩) (by assumption) ?_
            rotate_left
            · intro w hSw; (try dsimp only at hSw); go_simp; try (with_reducible rfl)
            rotate_left 0
            try simp only [Act.put, List.setIfInBounds_toArray, List.set_cons_zero, List.set_cons_succ]
            refine wpAnyH_take (i := 5) (oi := ⟨some 111, _, _, _, _, _⟩) (v := .string ⟨p.toArray⟩) rfl (by kernel_rfl) (by kernel_rfl) (by kernel_rfl) (fun _ _ _ h => h) (Or.inl ⟨by rfl, ?_⟩) (by assumption) ?_
            · intro w' hSw; have hcv := str_rd (hSw.1); (try dsimp only at hSw); go_simp
            try simp only [Act.put, List.setIfInBounds_toArray, List.set_cons_zero, List.set_cons_succ]
            refine wpAnyH_take (i := 6) (oi := ⟨some 112, _, _, _, _, _⟩) (v := ?_) rfl (by kernel_rfl) (by kernel_rfl) (by kernel_rfl) (fun _ _ _ h => h) (Or.inl ⟨by rfl, ?_⟩) (by assumption) ?_
            rotate_left
            · intro w hSw; (try dsimp only at hSw); go_simp; try (with_reducible rfl)
            rotate_left 0
            try simp only [Act.put, List.setIfInBounds_toArray, List.set_cons_zero, List.set_cons_succ]
            refine wpAnyH_take (i := 7) (oi := ⟨some 113, _, _, _, _, _⟩) (v := ?_) rfl (by kernel_rfl) (by kernel_rfl) (by kernel_rfl) (fun _ _ _ h => h) (Or.inl ⟨by rfl, ?_⟩) (by assumption) ?_
            rotate_left
            · intro w hSw; (try dsimp only at hSw); go_simp; try (with_reducible rfl)
            rotate_left 0
            try simp only [Act.put, List.setIfInBounds_toArray, List.set_cons_zero, List.set_cons_succ]
            refine wpAnyH_take (i := 8) (oi := ⟨some 114, _, _, _, _, _⟩) (v := ?_) rfl (by kernel_rfl) (by kernel_rfl) (by kernel_rfl) (fun _ _ _ h => h) (Or.inl ⟨by rfl, ?_⟩) (by assumption) ?_
            rotate_left
            · intro w hSw; (try dsimp only at hSw); go_simp; try (with_reducible rfl)
            rotate_left 0
            try simp only [Act.put, List.setIfInBounds_toArray, List.set_cons_zero, List.set_cons_succ]
            refine wpAnyH_take (i := 9) (oi := ⟨some 115, _, _, _, _, _⟩) (v := ?_) rfl (by kernel_rfl) (by kernel_rfl) (by kernel_rfl) (fun _ _ _ h => h) (Or.inl ⟨by rfl, ?_⟩) (by assumption) ?_
            rotate_left
            · intro w hSw; (try dsimp only at hSw); go_simp; try (with_reducible rfl)
            rotate_left 0
            try simp only [Act.put, List.setIfInBounds_toArray, List.set_cons_zero, List.set_cons_succ]
            refine wpAnyH_take (i := 10) (oi := ⟨some 116, _, _, _, _, _⟩) (v := ?_) rfl (by kernel_rfl) (by kernel_rfl) (by kernel_rfl) (fun _ _ _ h => h) (Or.inl ⟨by rfl, ?_⟩) (by assumption) ?_
            rotate_left
            · intro w hSw; (try dsimp only at hSw); go_simp; try (with_reducible rfl)
            rotate_left 0
            try simp only [Act.put, List.setIfInBounds_toArray, List.set_cons_zero, List.set_cons_succ]
            refine wpAnyH_take (i := 11) (oi := ⟨some 117, _, _, _, _, _⟩) (v := .string ⟨p1.toArray⟩) rfl (by kernel_rfl) (by kernel_rfl) (by kernel_rfl) (fun _ _ _ h => h) (Or.inl ⟨by rfl, ?_⟩) (by assumption) ?_
            · intro w' hSw; have hcv := str_rd (hSw.2.1); (try dsimp only at hSw); go_simp
            try simp only [Act.put, List.setIfInBounds_toArray, List.set_cons_zero, List.set_cons_succ]
            refine wpAnyH_take (i := 12) (oi := ⟨some 118, _, _, _, _, _⟩) (v := .bool true) rfl (by kernel_rfl) (by kernel_rfl) (by kernel_rfl) (fun _ _ _ h => h) (yieldsIf_bin (by rfl) .neq 9 _ _ _ rfl (.string ⟨p.toArray⟩) (.string ⟨p1.toArray⟩) rfl rfl _ (fun _ => rfl) HNQ.out) (by assumption) ?_
            try simp only [Act.put, List.setIfInBounds_toArray, List.set_cons_zero, List.set_cons_succ]
            refine wpAnyH_done (by kernel_rfl) ?_ _
            clear hHeld ALL HNQ c40 d40
            go_wp2
            go_ret
            exact ⟨rfl, HB.out.trans ((HW.out.trans (q.mono HW.out.size)).mono (by have := HZ.out; omega))⟩
        · obtain rfl : k = nl := by omega
          have hyes : res = true := by
            rw [← HRES.out]
            exact decide_eq_true ⟨HIDS.out, list_eq (by rw [HN.out.2.1, HN.out.2.2.2]) (fun j hj => HE.out j (by rw [HN.out.2.1] at hj; exact hj))⟩
          subst hyes
          clear HE d40
          go_wp2
          go_ret
          exact ⟨rfl, HB.out.trans (HW.out.mono (by have := HZ.out; omega))⟩
end Go.Proofs.Ytngceddlieimmaa
