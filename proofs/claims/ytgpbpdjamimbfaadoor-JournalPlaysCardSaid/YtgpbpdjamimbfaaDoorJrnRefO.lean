/-
  Layer 10: the reference's Open. In whatever memory. No condition.
-/
import Derived.Test.YtgpbpdjamimbfaaDoorJrnRefK
import Derived.Deep.RegionLaw
import Derived.Scope
namespace Go.Proofs.YtgpbpdjamimbfaaDoor
open Go Go.RowKit Go.Shelf

def slabA (s : SlabS) : Array Value := #[.int .i64 (s.room : Int), .int .i64 (s.sure : Int), .int .i64 (nrm s.pow), .string ⟨s.bs.toArray⟩]
/-- Between two records. -/
def ROpenR (w : World) (g1 g2 g4 : Nat) (sd : SlabS) (p : Nat) (wr : World) : Prop :=
  ∃ recs last v, Blk wr g4 39 (arr 38 (rjF sd v last false)) ∧ wr.ownsRow w.heap.size 9 1 v recs.length (strC recs).flatten ∧ Blk wr g1 29 (slabA sd) ∧ (∃ z, Blk wr g2 39 z ∧ z.size = 38) ∧ Below w.heap.size w wr ∧ p ≤ sd.bs.length ∧ 35 * recs.length ≤ p ∧
    readJ zeroD sd.bs = (recs ++ (readJ last (sd.bs.drop p)).1, (readJ last (sd.bs.drop p)).2)
theorem rj_set4 (s : SlabS) (v v' : Value) (l : Nat → UInt8) (dn : Bool) : (arr 38 (rjF s v l dn)).setIfInBounds 4 v' = arr 38 (rjF s v' l dn) := by
  apply Array.ext_getElem?
  intro i
  rw [Array.getElem?_setIfInBounds, arr_get, arr_get, arr_size]
  by_cases hi : i < 38
  · match i with
    | 0 => rfl
    | 1 => rfl
    | 2 => rfl
    | 3 => rfl
    | 4 => rfl
    | k + 5 =>
      rw [if_neg (by omega), if_pos hi, if_pos hi]
      rfl
  · rw [if_neg (by omega), if_neg hi, if_neg hi]
theorem slabA_arr (s : SlabS) (v : Value) (l : Nat → UInt8) (dn : Bool) : slabA s = arr 4 (rjF s v l dn) := by
  rw [arr_list]
  rfl
theorem slabA_all (s : SlabS) : (slabA s).all (·.oneCell') = true := by
  rw [Array.all_eq_true_iff_forall_mem]
  intro u hu
  simp only [slabA, List.mem_toArray, List.mem_cons, List.not_mem_nil, or_false] at hu
  rcases hu with rfl | rfl | rfl | rfl <;> rfl
theorem rj_put (s s' : SlabS) (v : Value) (l : Nat → UInt8) (dn : Bool) : (arr 38 fun i => if 0 ≤ i ∧ i < 0 + 4 then rjF s' v l dn (i - 0) else rjF s v l dn i) = arr 38 (rjF s' v l dn) := by
  refine arr_congr fun k hk => ?_
  match k with
  | 0 => rfl
  | 1 => rfl
  | 2 => rfl
  | 3 => rfl
  | 4 => rfl
  | k + 5 => rw [if_neg (by omega)]; rfl
theorem wpList_load_runT {P : Program} {ops : Array Oper} {rest : List Oper} {o : Oper} {a : Act} {w : World} {Q : Exit → Act → World → Prop} (hw : Region.wanted o (yielded ops a.tmps) = true) (ty : TypeId) (x : Operand) (ho : o.op = .load ty x) (p v : Value) (hx : a.eval x = p) (hl : (Instr.loadAt ty p).run P w = .ok v w)
    (h : wpList P ops Q rest (a.put o.dst v) w) : wpList P ops Q (o :: rest) a w :=
  wpList_step fun K hK => by
    rw [if_pos hw]
    unfold Oper.wp
    simp [execOp, ho, hx, hl, Result.andThen, Oper.upon]
    exact hK _ _ h
theorem load_lastR {W : World} {g : Nat} {s : SlabS} {v : Value} {l : Nat → UInt8} {dn : Bool} (k : Blk W g 39 (arr 38 (rjF s v l dn))) : (Instr.loadAt 37 (.pointer (some ⟨g, 5, none⟩))).run Tryd.prog W = .ok (.agg (arr 32 fun i => bv (l i))) W := by
  have h := run_loadAt_mid W g 5 37 (arr 32 fun i => bv (l i)).toList _ (fun j v hv => ?_) Tryd.underlying37 rfl (by rw [Array.length_toList, arr_size]; kernel_rfl)
  · rw [Array.toArray_toList] at h
    exact h
  · rw [Array.getElem?_toList, arr_get] at hv
    by_cases hj : j < 32
    · rw [if_pos hj] at hv
      rw [k.cell, arr_get, if_pos (by omega)]
      rw [← hv, Nat.add_comm]
      show some (if j < 32 then bv (l j) else .bool dn) = _
      rw [if_pos hj]
    · rw [if_neg hj] at hv
      cases hv
theorem rj_lastR (s : SlabS) (v : Value) (l l' : Nat → UInt8) (dn : Bool) : (arr 38 fun i => if 5 ≤ i ∧ i < 5 + 32 then bv (l' (i - 5)) else rjF s v l dn i) = arr 38 (rjF s v l' dn) := by
  refine arr_congr fun k hk => ?_
  match k with
  | 0 => rfl
  | 1 => rfl
  | 2 => rfl
  | 3 => rfl
  | 4 => rfl
  | k + 5 =>
    show (if 5 ≤ k + 5 ∧ k + 5 < 5 + 32 then bv (l' (k + 5 - 5)) else if k < 32 then bv (l k) else .bool dn) = if k < 32 then bv (l' k) else .bool dn
    by_cases h : k < 32
    · rw [if_pos (by omega), if_pos h, Nat.add_sub_cancel]
    · rw [if_neg (by omega), if_neg h, if_neg h]
theorem rj_one4 {s : SlabS} {v : Value} {l : Nat → UInt8} {dn : Bool} {j : Nat} (hj : j < 4) : (rjF s v l dn j).oneCell' = true := by
  match j, hj with
  | 0, _ => rfl
  | 1, _ => rfl
  | 2, _ => rfl
  | 3, _ => rfl
theorem turn_setRowR (w : World) (g : Nat) (cs : Array Value) : Turn (fun i => i = g) w (w.setRow g cs) := ⟨rfl, rfl, rfl, by rw [size_setRow]; exact Nat.le_refl _, fun i _ hn => setRow_other w g i cs hn⟩
theorem below_turnR {B : Nat} {S : Nat → Prop} {w0 W W' : World} (hb : Below B w0 W) (hB : B ≤ w0.heap.size) (ht : Turn S W W') (hs : ∀ i, S i → B ≤ i) : Below B w0 W' :=
  hb.trans (ht.below (Nat.le_trans hB hb.size) (fun i hi h => by have := hs i h; omega))
theorem yields_binJ {P : Program} {ops : Array Oper} {S : World → Prop} {op : Oper} {a : Act} (hw : Region.wanted op (yielded ops a.tmps) = true) (bop : BinOp) (t rt : TypeId) (x y : Operand) (ho : op.op = .binOp bop t x y rt)
    (vx vy : Value) (hx : a.eval x = vx) (hy : a.eval y = vy) (v : Value) (hg : ∀ w, (eqGuard bop t x y vx vy).run P w = .ok () w) (hrun : ∀ w, (binOp bop t vx vy).run P w = .ok v w) : YieldsIf P ops S op v a :=
  .inl ⟨hw, fun w _ => by
    unfold execOp
    simp only [ho, hx, hy, Sem.run_bind, hg, hrun, Sem.run_pure, Result.andThen_ok]⟩
theorem int_addJ (x y z : Int) (hz : x + y = z) (h1 : -1000000000 ≤ z) (h2 : z ≤ 1000000000) (w : World) : (binOp .add 3 (.int .i64 x) (.int .i64 y)).run Tryd.prog w = .ok (.int .i64 z) w := by
  subst hz
  rw [Go.binOp_add]
  go_simp
  rw [IntWalk.i64_left, IntWalk.wrap64_in _ (by omega)]
theorem yields_loadR {P : Program} {ops : Array Oper} {S : World → Prop} {op : Oper} {a : Act} (hw : Region.wanted op (yielded ops a.tmps) = true) (ty : TypeId) (x : Operand) (ho : op.op = .load ty x) (p : Value) (hx : a.eval x = p) (v : Value) (hS : ∀ w, S w → (Instr.loadAt ty p).run P w = .ok v w) : YieldsIf P ops S op v a :=
  .inl ⟨hw, fun w hw' => by
    unfold execOp
    simp only [ho, hx, Sem.run_bind, hS w hw', Sem.run_pure, Result.andThen_ok]⟩
theorem open_done {sd : SlabS} {recs : List (List UInt8)} {last : Nat → UInt8} {bb : List UInt8} (h : readJ zeroD sd.bs = (recs, last, bb, 20)) :
    openJ sd = if bb.length = 0 then (some ⟨recs, last, false⟩, sd, 0) else if (sd.cut ((sd.bs.length - bb.length : Nat) : Int)).2 = 0 then (some ⟨recs, last, false⟩, (sd.cut ((sd.bs.length - bb.length : Nat) : Int)).1, 0) else (none, (sd.cut ((sd.bs.length - bb.length : Nat) : Int)).1, (sd.cut ((sd.bs.length - bb.length : Nat) : Int)).2) := by
  unfold openJ
  rw [h, if_neg (show ¬ (20 : Nat) = 100 by decide)]
theorem open_torn {sd : SlabS} (h : (readJ zeroD sd.bs).2.2.2 = 100) : openJ sd = (none, sd, 100) := by
  unfold openJ
  rw [if_pos h]
/-- What it answers. -/
def ROut (w : World) (sd : SlabS) (e : Ending) (w' : World) : Prop :=
  Below w.heap.size w w' ∧ ∃ v, match (openJ sd).1 with
    | none => ∃ z, e = .returned (.tuple #[.agg z, .int .i64 (openJ sd).2.2]) ∧ (openJ sd).2.2 ≠ 0 ∧ z.size = 38 ∧ z.all (·.oneCell') = true ∧ z = arr 38 (rjF sd (.slice none 0 0) zeroD false)
    | some s => e = .returned (.tuple #[.agg (arr 38 (rjF (openJ sd).2.1 v s.last false)), .int .i64 0]) ∧ (openJ sd).2.2 = 0 ∧ w'.ownsRow w.heap.size 9 1 v s.recs.length (strC s.recs).flatten
set_option maxRecDepth 100000 in
set_option maxHeartbeats 8000000 in
theorem refOpen_any (sd : SlabS) (hs : sd.Ok) (w : World) : Calls Tryd.prog 14 #[sd.v] w fun e w' => ROut w sd e w' := by
  have hbu := rj_built sd
  have hbs := rj_some sd
  obtain ⟨n, hn⟩ : ∃ n, sd.bs.length = n := ⟨_, rfl⟩
  have hn4 : n ≤ 4194304 := by have := hs.fits; have := hs.room; omega
  have HN := Lib.hid hn
  have HS := Lib.hid hs
  obtain ⟨jz, hjz⟩ : ∃ jz, arr 38 (rjF sd (.slice none 0 0) zeroD false) = jz := ⟨_, rfl⟩
  rw [hjz] at hbu
  have hsv : sd.v = .agg (slabA sd) := rfl
  obtain ⟨sv, hsv'⟩ : ∃ sv, slabA sd = sv := ⟨_, rfl⟩
  have HSV := Lib.hid hsv'
  rw [hsv, hsv'] at hbu hbs
  have HBS := Lib.hid hbs
  rw [hsv, hsv']
  have HBU := Lib.hid hbu
  have hj38 : jz.size = 38 := by rw [← hjz, arr_size]
  have hjall : jz.all (·.oneCell') = true := by rw [← hjz]; exact rj_all rfl
  have hs4 : sv.size = 4 := by rw [← hsv']; rfl
  have HJZ := Lib.hid (And.intro hjz (And.intro hj38 (And.intro hjall hs4)))
  clear hn hs hbu hbs hjz hsv hsv' hj38 hjall hs4
  go_enter Tryd.func14, Tryd.ntmps14
  go_upto_region 1 with fail
  generalize hW : World.alloc (World.alloc w _) _ = W
  have c1 : Blk W w.heap.size 29 sv := by rw [← hW]; exact (Blk.newAt _ _ rfl rfl).alloc _
  have c2 : ∃ z, Blk W (w.heap.size + 1) 39 z ∧ z.size = 38 := by rw [← hW]; exact ⟨_, Blk.newAt _ _ (by simp) rfl, rfl⟩
  have b0 : Below w.heap.size w W := by rw [← hW]; exact ((Below.refl _ _).alloc (Nat.le_refl _) _).alloc (by simp) _
  have hz : W.heap.size = w.heap.size + 2 := by rw [← hW]; simp
  have HB := Lib.hid (And.intro b0 (And.intro c2 hz))
  clear hW b0 c2 hz
  go_upto_region 2 with (first
    | (guard_target = wpList _ _ _ (Oper.mk _ (.load 29 _) _ _ _ _ :: _) _ _; refine wpList_load_row rfl 29 _ rfl w.heap.size rfl 29 sv (0, 0) _ c1 Tryd.underlying29 rfl (by rw [HJZ.out.2.2.2]; kernel_rfl) ?_)
    | (guard_target = wpList _ _ _ (Oper.mk _ (.build 39 _) _ _ _ _ :: _) _ _; refine wpList_build rfl 39 _ rfl (by simp only [List.map_toArray, List.map_cons, List.map_nil]; exact HBS.out) ?_; simp only [List.map_toArray, List.map_cons, List.map_nil])
    | (guard_target = wpList _ _ _ (Oper.mk _ (.store 39 _ _) _ _ _ _ :: _) _ _; refine wpList_store_row rfl 39 _ _ rfl W.heap.size jz rfl (show _ = Value.agg jz by rw [← HBU.out]; rfl) 39 _ (heap_alloc_new W _) (by rw [HJZ.out.2.1]; kernel_rfl) (by rw [HJZ.out.2.1]; rfl) HJZ.out.2.2.1 ?_; rw [World.setRow_alloc_new]))
  obtain ⟨W3, hW3⟩ : ∃ W3, W.alloc (.cells jz 39) = W3 := ⟨_, rfl⟩
  rw [hW3]
  have hb3 : Below W.heap.size W W3 := by rw [← hW3]; exact (Below.refl _ _).alloc (Nat.le_refl _) _
  have hk3 : Blk W3 W.heap.size 39 jz := by rw [← hW3]; exact Blk.newAt _ _ rfl rfl
  obtain ⟨g4, hg4⟩ : ∃ g4, W.heap.size = g4 := ⟨_, rfl⟩
  have HSTART : Hid (ROpenR w w.heap.size (w.heap.size + 1) g4 sd 0 W3) := Lib.hid (by
    obtain ⟨z, hz1, hz2⟩ := HB.out.2.1
    exact ⟨[], zeroD, .slice none 0 0, by rw [HJZ.out.1, ← hg4]; exact hk3, World.ownsRow_nil _ _ _ _, by rw [HSV.out]; exact c1.below hb3 c1.lt, ⟨z, hz1.below hb3 hz1.lt, hz2⟩, HB.out.1.trans (hb3.mono HB.out.1.size), Nat.zero_le _, Nat.zero_le _, by rw [List.drop_zero]; rfl⟩)
  have HG4 : Hid (g4 = w.heap.size + 2) := Lib.hid (hg4.symm.trans HB.out.2.2)
  rw [hg4]
  clear hW3 hb3 hk3 c1 HB hg4
  go_wp2_with fail
  go_loopw [5] (fun i wr => ∃ p : Nat, i = .int .i64 (p : Int) ∧ ROpenR w w.heap.size (w.heap.size + 1) g4 sd p wr) (fun i _ => n - (intOf i).toNat)
  case atStart => exact ⟨0, rfl, HSTART.out⟩
  case round =>
    clear HSTART
    obtain ⟨p, rfl, recs, last, v, k4, hown, k1, k2, hbw, hp, h35, hread⟩ := hrel
    rw [HN.out] at hp
    rw [HSV.out] at k1
    have hp4 : (p : Int) ≤ 4194304 := by omega
    have c13 : wr.cell? ⟨w.heap.size, 3, none⟩ = some (.string ⟨sd.bs.toArray⟩) := by rw [k1.cell, ← HSV.out]; rfl
    have hsz : (⟨sd.bs.toArray⟩ : ByteArray).size = n := by rw [ba_len, HN.out]
    obtain ⟨bb, hbb⟩ : ∃ bb, sd.bs.drop p = bb := ⟨_, rfl⟩
    have hbl : bb.length = n - p := by rw [← hbb, List.length_drop, HN.out]
    by_cases h35b : 35 ≤ n - p
    · have hc1 : (35 : Int) ≤ (n : Int) - (p : Int) := by omega
      have hpn : p + 35 ≤ sd.bs.length := by rw [HN.out]; omega
      have hq3 : (bb.take 3).length = 3 := by rw [List.length_take, hbl]; omega
      have hcut1 : ∀ W, (Instr.sliceAt 9 (.string ⟨sd.bs.toArray⟩) (some (.int .i64 (p : Int))) (some (.int .i64 ((p : Int) + 3))) none).run Tryd.prog W = .ok (.string ⟨(bb.take 3).toArray⟩) W := fun W => by
        have h := cutJ sd.bs p 0 3 (p : Int) ((p : Int) + 3) (by omega) (by omega) (by omega) (by omega) W
        rw [List.drop_zero, hbb] at h
        exact h
      have HCUT2 : Hid (∀ W, (Instr.sliceAt 9 (.string ⟨sd.bs.toArray⟩) (some (.int .i64 ((p : Int) + 3))) (some (.int .i64 ((p : Int) + 19))) none).run Tryd.prog W = .ok (.string ⟨((bb.take 19).drop 3).toArray⟩) W) := Lib.hid fun W => by
        have h := cutJ sd.bs p 3 19 ((p : Int) + 3) ((p : Int) + 19) (by omega) (by omega) (by omega) (by omega) W
        rw [hbb] at h
        exact h
      obtain ⟨y0, hy0⟩ : ∃ y0, ((bb.take 3).getD 0 0).toNat = y0 := ⟨_, rfl⟩
      obtain ⟨y1, hy1⟩ : ∃ y1, ((bb.take 3).getD 1 0).toNat = y1 := ⟨_, rfl⟩
      obtain ⟨y2, hy2⟩ : ∃ y2, ((bb.take 3).getD 2 0).toNat = y2 := ⟨_, rfl⟩
      have hb0 : y0 < 256 := by rw [← hy0]; exact UInt8.toNat_lt _
      have hb1 : y1 < 256 := by rw [← hy1]; exact UInt8.toNat_lt _
      have hb2 : y2 < 256 := by rw [← hy2]; exact UInt8.toNat_lt _
      have hi0 : ∀ W, (Instr.index 9 (.string ⟨(bb.take 3).toArray⟩) (.int .i64 0)).run Tryd.prog W = .ok (.int .u8 (y0 : Int)) W := fun W => by
        have h := idx_str (bb.take 3) 0 0 rfl (by omega) W
        unfold bv at h
        rw [hy0] at h
        exact h
      have hi1 : ∀ W, (Instr.index 9 (.string ⟨(bb.take 3).toArray⟩) (.int .i64 1)).run Tryd.prog W = .ok (.int .u8 (y1 : Int)) W := fun W => by
        have h := idx_str (bb.take 3) 1 1 rfl (by omega) W
        unfold bv at h
        rw [hy1] at h
        exact h
      have hi2 : ∀ W, (Instr.index 9 (.string ⟨(bb.take 3).toArray⟩) (.int .i64 2)).run Tryd.prog W = .ok (.int .u8 (y2 : Int)) W := fun W => by
        have h := idx_str (bb.take 3) 2 2 rfl (by omega) W
        unfold bv at h
        rw [hy2] at h
        exact h
      obtain ⟨nj, hnj⟩ : ∃ nj, sizeJ bb = nj := ⟨_, rfl⟩
      have hsum : (y0 : Int) * 65536 + (y1 : Int) * 256 + (y2 : Int) = (nj : Int) := by
        have e : sizeJ bb = sizeJ (bb.take 3) := by
          unfold sizeJ
          simp only [List.getD_eq_getElem?_getD, List.getElem?_take_of_lt (show 0 < 3 by omega), List.getElem?_take_of_lt (show 1 < 3 by omega), List.getElem?_take_of_lt (show 2 < 3 by omega)]
        rw [← hnj, e]
        unfold sizeJ
        rw [hy0, hy1, hy2]
        omega
      have hnj16 : nj < 16777216 := by rw [← hnj]; exact sizeJ_lt bb
      obtain ⟨q, hq⟩ : ∃ q, bb.take 3 = q := ⟨_, rfl⟩
      rw [hq] at hcut1 hi0 hi1 hi2 hq3
      have HQ := Lib.hid hq
      have HNJ := Lib.hid hnj
      have HREAD := Lib.hid hread
      have HBB := Lib.hid hbb
      have HSUM := Lib.hid hsum
      have HP := Lib.hid hpn
      clear hq hnj hread hbb hy0 hy1 hy2 hsum hpn
      have hw : ∀ z : Int, 0 ≤ z → z < 9223372036854775808 → IntKind.i64.wrap z = z := fun z h1 h2 => by
        rw [IntKind.wrap_i64]
        omega
      go_upto_region 5 with fail
      refine wp_region_held_drew (S := fun _ => True) (by kernel_rfl) ?_ (fun hHeld => ?_)
      · exact trivial
      refine wpAnyH_take (i := 0) (oi := ⟨some 25, _, _, _, _, _⟩) (v := ?_) rfl (by kernel_rfl) (by kernel_rfl) (by kernel_rfl) (fun _ _ _ h => h) (Or.inl ⟨by rfl, ?_⟩) (by assumption) ?_
      rotate_left
      · intro w hSw; (try dsimp only at hSw); go_simp; try (with_reducible rfl)
      rotate_left 0
      try simp only [Act.put, List.setIfInBounds_toArray, List.set_cons_zero, List.set_cons_succ]
      refine wpAnyH_take (i := 1) (oi := ⟨some 26, _, _, _, _, _⟩) (v := ?_) rfl (by kernel_rfl) (by kernel_rfl) (by kernel_rfl) (fun _ _ _ h => h) (Or.inl ⟨by rfl, ?_⟩) (by assumption) ?_
      rotate_left
      · intro w hSw; (try dsimp only at hSw); go_simp; try (with_reducible rfl)
      rotate_left 0
      try simp only [Act.put, List.setIfInBounds_toArray, List.set_cons_zero, List.set_cons_succ]
      refine wpAnyH_take (i := 2) (oi := ⟨some 27, _, _, _, _, _⟩) (v := ?_) rfl (by kernel_rfl) (by kernel_rfl) (by kernel_rfl) (fun _ _ _ h => h) (Or.inl ⟨by rfl, ?_⟩) (by assumption) ?_
      rotate_left
      · intro w hSw; (try dsimp only at hSw); go_simp; try (with_reducible rfl)
      rotate_left 0
      try simp only [Act.put, List.setIfInBounds_toArray, List.set_cons_zero, List.set_cons_succ]
      refine wpAnyH_take (i := 3) (oi := ⟨some 28, _, _, _, _, _⟩) (v := ?_) rfl (by kernel_rfl) (by kernel_rfl) (by kernel_rfl) (fun _ _ _ h => h) (Or.inl ⟨by rfl, ?_⟩) (by assumption) ?_
      rotate_left
      · intro w hSw; (try dsimp only at hSw); go_simp; try (with_reducible rfl)
      rotate_left 0
      try simp only [Act.put, List.setIfInBounds_toArray, List.set_cons_zero, List.set_cons_succ]
      refine wpAnyH_take (i := 4) (oi := ⟨some 29, _, _, _, _, _⟩) (v := ?_) rfl (by kernel_rfl) (by kernel_rfl) (by kernel_rfl) (fun _ _ _ h => h) (Or.inl ⟨by rfl, ?_⟩) (by assumption) ?_
      rotate_left
      · intro w hSw; (try dsimp only at hSw); go_simp; try (with_reducible rfl)
      rotate_left 0
      try simp only [Act.put, List.setIfInBounds_toArray, List.set_cons_zero, List.set_cons_succ]
      refine wpAnyH_take (i := 5) (oi := ⟨some 30, _, _, _, _, _⟩) (v := ?_) rfl (by kernel_rfl) (by kernel_rfl) (by kernel_rfl) (fun _ _ _ h => h) (Or.inl ⟨by rfl, ?_⟩) (by assumption) ?_
      rotate_left
      · intro w hSw; (try dsimp only at hSw); go_simp; try (with_reducible rfl)
      rotate_left 0
      try simp only [Act.put, List.setIfInBounds_toArray, List.set_cons_zero, List.set_cons_succ]
      refine wpAnyH_take (i := 6) (oi := ⟨some 31, _, _, _, _, _⟩) (v := ?_) rfl (by kernel_rfl) (by kernel_rfl) (by kernel_rfl) (fun _ _ _ h => h) (Or.inl ⟨by rfl, ?_⟩) (by assumption) ?_
      rotate_left
      · intro w hSw; (try dsimp only at hSw); go_simp; try (with_reducible rfl)
      rotate_left 0
      try simp only [Act.put, List.setIfInBounds_toArray, List.set_cons_zero, List.set_cons_succ]
      refine wpAnyH_take (i := 7) (oi := ⟨some 32, _, _, _, _, _⟩) (v := ?_) rfl (by kernel_rfl) (by kernel_rfl) (by kernel_rfl) (fun _ _ _ h => h) (Or.inl ⟨by rfl, ?_⟩) (by assumption) ?_
      rotate_left
      · intro w hSw; (try dsimp only at hSw); go_simp; try (with_reducible rfl)
      rotate_left 0
      try simp only [Act.put, List.setIfInBounds_toArray, List.set_cons_zero, List.set_cons_succ]
      refine wpAnyH_take (i := 8) (oi := ⟨some 33, _, _, _, _, _⟩) (v := ?_) rfl (by kernel_rfl) (by kernel_rfl) (by kernel_rfl) (fun _ _ _ h => h) (Or.inl ⟨by rfl, ?_⟩) (by assumption) ?_
      rotate_left
      · intro w hSw; (try dsimp only at hSw); go_simp; try (with_reducible rfl)
      rotate_left 0
      try simp only [Act.put, List.setIfInBounds_toArray, List.set_cons_zero, List.set_cons_succ]
      refine wpAnyH_take (i := 9) (oi := ⟨some 34, _, _, _, _, _⟩) (v := ?_) rfl (by kernel_rfl) (by kernel_rfl) (by kernel_rfl) (fun _ _ _ h => h) (Or.inl ⟨by rfl, ?_⟩) (by assumption) ?_
      rotate_left
      · intro w hSw; (try dsimp only at hSw); go_simp; try (with_reducible rfl)
      rotate_left 0
      try simp only [Act.put, List.setIfInBounds_toArray, List.set_cons_zero, List.set_cons_succ]
      refine wpAnyH_take (i := 10) (oi := ⟨some 35, _, _, _, _, _⟩) (v := ?_) rfl (by kernel_rfl) (by kernel_rfl) (by kernel_rfl) (fun _ _ _ h => h) (Or.inl ⟨by rfl, ?_⟩) (by assumption) ?_
      rotate_left
      · intro w hSw; (try dsimp only at hSw); go_simp; try (with_reducible rfl)
      rotate_left 0
      try simp only [Act.put, List.setIfInBounds_toArray, List.set_cons_zero, List.set_cons_succ]
      refine wpAnyH_take (i := 11) (oi := ⟨some 36, _, _, _, _, _⟩) (v := ?_) rfl (by kernel_rfl) (by kernel_rfl) (by kernel_rfl) (fun _ _ _ h => h) (Or.inl ⟨by rfl, ?_⟩) (by assumption) ?_
      rotate_left
      · intro w hSw; (try dsimp only at hSw); go_simp; try (with_reducible rfl)
      rotate_left 0
      try simp only [Act.put, List.setIfInBounds_toArray, List.set_cons_zero, List.set_cons_succ]
      refine wpAnyH_take (i := 12) (oi := ⟨some 37, _, _, _, _, _⟩) (v := ?_) rfl (by kernel_rfl) (by kernel_rfl) (by kernel_rfl) (fun _ _ _ h => h) (Or.inl ⟨by rfl, ?_⟩) (by assumption) ?_
      rotate_left
      · intro w hSw; (try dsimp only at hSw); go_simp; try (with_reducible rfl)
      rotate_left 0
      try simp only [Act.put, List.setIfInBounds_toArray, List.set_cons_zero, List.set_cons_succ]
      refine wpAnyH_take (i := 13) (oi := ⟨some 7, _, _, _, _, _⟩) (v := ?_) rfl (by kernel_rfl) (by kernel_rfl) (by kernel_rfl) (fun _ _ _ h => h) (Or.inl ⟨by rfl, ?_⟩) (by assumption) ?_
      rotate_left
      · intro w hSw; (try dsimp only at hSw); go_simp; try (with_reducible rfl)
      rotate_left 0
      try simp only [Act.put, List.setIfInBounds_toArray, List.set_cons_zero, List.set_cons_succ]
      refine wpAnyH_done (by kernel_rfl) ?_ _
      rw [hw (y0 : Int) (by omega) (by omega), hw ((y0 : Int) * 65536) (by omega) (by omega), hw (y1 : Int) (by omega) (by omega), hw ((y1 : Int) * 256) (by omega) (by omega), hw ((y0 : Int) * 65536 + (y1 : Int) * 256) (by omega) (by omega), hw (y2 : Int) (by omega) (by omega), hw ((y0 : Int) * 65536 + (y1 : Int) * 256 + (y2 : Int)) (by omega) (by omega), HSUM.out]
      clear hi0 hi1 hi2 hcut1 hw
      have HNJ16 := Lib.hid hnj16
      clear hnj16
      have HOW := Lib.hid (refOwn_any last q (by omega))
      obtain ⟨lr, hlr⟩ : ∃ lr, (arr 32 fun i => bv (last i)) = lr := ⟨_, rfl⟩
      have hl32 : lr.size = 32 := by rw [← hlr, arr_size]
      have cp : ∀ W, Below wr.heap.size wr W → (Instr.loadAt 37 (.pointer (some ⟨g4, 5, none⟩))).run Tryd.prog W = .ok (.agg lr) W := fun W hb => by
        have k := k4.below hb k4.lt
        rw [← hlr]
        have h := run_loadAt_mid W g4 5 37 (arr 32 fun i => bv (last i)).toList _ (fun j v hv => ?_) Tryd.underlying37 rfl (by rw [Array.length_toList, arr_size]; kernel_rfl)
        · rw [Array.toArray_toList] at h
          exact h
        · rw [Array.getElem?_toList, arr_get] at hv
          by_cases hj : j < 32
          · rw [if_pos hj] at hv
            rw [k.cell, arr_get, if_pos (by omega)]
            rw [← hv, Nat.add_comm]
            show some (if j < 32 then bv (last j) else .bool false) = _
            rw [if_pos hj]
          · rw [if_neg hj] at hv
            cases hv
      rw [hlr] at HOW
      have HCP := Lib.hid cp
      have HLR := Lib.hid hlr
      have HK4 := Lib.hid k4
      have HK1 := Lib.hid k1
      have HK2 := Lib.hid k2
      have HBW := Lib.hid hbw
      have HOWN := Lib.hid hown
      clear cp hlr hl32 k4 k2 hbw hown
      have HST : Hid (∀ W, Below wr.heap.size wr W → (Instr.loadAt 9 (.pointer (some ⟨w.heap.size, 3, none⟩))).run Tryd.prog W = .ok (.string ⟨sd.bs.toArray⟩) W) := Lib.hid fun W hb => loadVar_oneJ Tryd.underlying9 rfl ((hb.cell (p := ⟨w.heap.size, 3, none⟩) HK1.out.lt).trans c13)
      obtain ⟨β, hβ⟩ : ∃ β, ((bb.take 19).drop 3 == ownB last q) = β := ⟨_, rfl⟩
      have hne := fun W => neq_str ((bb.take 19).drop 3) (ownB last q) W
      rw [hβ] at hne
      have HBE := Lib.hid hβ
      clear hβ
      obtain ⟨c19, hc19⟩ : ∃ c19, (bb.take 19).drop 3 = c19 := ⟨_, rfl⟩
      obtain ⟨oq, hoq⟩ : ∃ oq, ownB last q = oq := ⟨_, rfl⟩
      rw [hc19] at hne HCUT2
      rw [hoq] at hne HOW
      go_upto_region 6 with fail
      have hbX : Below wr.heap.size wr wr.drew.drew := (Below.refl _ _).drew.drew
      have hcut2 := HCUT2.out
      clear hc19 hoq
      refine wp_region_held_drew (S := fun W' => Below wr.heap.size wr W') (by kernel_rfl) ?_ (fun hHeld => ?_)
      · exact hbX
      refine wpAnyH_take (i := 0) (oi := ⟨some 38, _, _, _, _, _⟩) (v := ?_) rfl (by kernel_rfl) (by kernel_rfl) (by kernel_rfl) (fun _ _ _ h => h) (Or.inl ⟨by rfl, ?_⟩) (by assumption) ?_
      rotate_left
      · intro w hSw; (try dsimp only at hSw); go_simp; try (with_reducible rfl)
      rotate_left 0
      try simp only [Act.put, List.setIfInBounds_toArray, List.set_cons_zero, List.set_cons_succ]
      refine wpAnyH_take (i := 1) (oi := ⟨some 39, _, _, _, _, _⟩) (v := (.string ⟨sd.bs.toArray⟩)) rfl (by kernel_rfl) (by kernel_rfl) (by kernel_rfl) (fun _ _ _ h => h) (yields_loadR (by rfl) 9 _ rfl (.pointer (some ⟨w.heap.size, 3, none⟩)) rfl _ (fun W' hS => HST.out W' hS)) (by assumption) ?_
      try simp only [Act.put, List.setIfInBounds_toArray, List.set_cons_zero, List.set_cons_succ]
      refine wpAnyH_take (i := 2) (oi := ⟨some 40, _, _, _, _, _⟩) (v := ?_) rfl (by kernel_rfl) (by kernel_rfl) (by kernel_rfl) (fun _ _ _ h => h) (Or.inl ⟨by rfl, ?_⟩) (by assumption) ?_
      rotate_left
      · intro w hSw; (try dsimp only at hSw); go_simp; try (with_reducible rfl)
      rotate_left 0
      try simp only [Act.put, List.setIfInBounds_toArray, List.set_cons_zero, List.set_cons_succ]
      refine wpAnyH_take (i := 3) (oi := ⟨some 41, _, _, _, _, _⟩) (v := (.int .i64 ((p : Int) + 3))) rfl (by kernel_rfl) (by kernel_rfl) (by kernel_rfl) (fun _ _ _ h => h) (yields_binJ (by rfl) .add _ _ _ _ rfl (.int .i64 (p : Int)) (.int .i64 3) rfl rfl _ (fun _ => rfl) (fun w' => int_addJ (p : Int) 3 ((p : Int) + 3) (by omega) (by omega) (by omega) w')) (by assumption) ?_
      try simp only [Act.put, List.setIfInBounds_toArray, List.set_cons_zero, List.set_cons_succ]
      refine wpAnyH_take (i := 4) (oi := ⟨some 42, _, _, _, _, _⟩) (v := ?_) rfl (by kernel_rfl) (by kernel_rfl) (by kernel_rfl) (fun _ _ _ h => h) (Or.inl ⟨by rfl, ?_⟩) (by assumption) ?_
      rotate_left
      · intro w hSw; (try dsimp only at hSw); go_simp; try (with_reducible rfl)
      rotate_left 0
      try simp only [Act.put, List.setIfInBounds_toArray, List.set_cons_zero, List.set_cons_succ]
      refine wpAnyH_take (i := 5) (oi := ⟨some 43, _, _, _, _, _⟩) (v := (.int .i64 ((p : Int) + 19))) rfl (by kernel_rfl) (by kernel_rfl) (by kernel_rfl) (fun _ _ _ h => h) (yields_binJ (by rfl) .add _ _ _ _ rfl (.int .i64 (p : Int)) (.int .i64 19) rfl rfl _ (fun _ => rfl) (fun w' => int_addJ (p : Int) 19 ((p : Int) + 19) (by omega) (by omega) (by omega) w')) (by assumption) ?_
      try simp only [Act.put, List.setIfInBounds_toArray, List.set_cons_zero, List.set_cons_succ]
      refine wpAnyH_take (i := 6) (oi := ⟨some 44, _, _, _, _, _⟩) (v := ?_) rfl (by kernel_rfl) (by kernel_rfl) (by kernel_rfl) (fun _ _ _ h => h) (Or.inl ⟨by rfl, ?_⟩) (by assumption) ?_
      rotate_left
      · intro w hSw; (try dsimp only at hSw); go_simp; try (with_reducible rfl)
      rotate_left 0
      try simp only [Act.put, List.setIfInBounds_toArray, List.set_cons_zero, List.set_cons_succ]
      refine wpAnyH_take (i := 7) (oi := ⟨some 45, _, _, _, _, _⟩) (v := ?_) rfl (by kernel_rfl) (by kernel_rfl) (by kernel_rfl) (fun _ _ _ h => h) (Or.inl ⟨by rfl, ?_⟩) (by assumption) ?_
      rotate_left
      · intro w hSw; (try dsimp only at hSw); go_simp; try (with_reducible rfl)
      rotate_left 0
      try simp only [Act.put, List.setIfInBounds_toArray, List.set_cons_zero, List.set_cons_succ]
      refine wpAnyH_take (i := 8) (oi := ⟨some 46, _, _, _, _, _⟩) (v := (.agg lr)) rfl (by kernel_rfl) (by kernel_rfl) (by kernel_rfl) (fun _ _ _ h => h) (yields_loadR (by rfl) 37 _ rfl (.pointer (some ⟨g4, 5, none⟩)) rfl _ (fun W' hS => HCP.out W' hS)) (by assumption) ?_
      try simp only [Act.put, List.setIfInBounds_toArray, List.set_cons_zero, List.set_cons_succ]
      refine wpAnyH_take (i := 9) (oi := ⟨some 47, _, _, _, _, _⟩) (v := ?_) rfl (by kernel_rfl) (by kernel_rfl) (by kernel_rfl) (fun _ _ _ h => h) (Or.inl ⟨by rfl, ?_⟩) (by assumption) ?_
      rotate_left
      · intro w hSw; (try dsimp only at hSw); go_simp; try (with_reducible rfl)
      rotate_left 0
      try simp only [Act.put, List.setIfInBounds_toArray, List.set_cons_zero, List.set_cons_succ]
      refine wpAnyH_ready (rs := [10]) (by kernel_rfl) (by simp) ?_
      refine (AllReadyH.cons (o := ⟨some 48, _, _, _, _, _⟩) rfl (fun K hK => ?_) AllReadyH.nil)
      (try rw [if_pos (by rfl)])
      go_simp
      refine (HOW.out _).mono ?_
      rintro e WX ⟨rfl, hbc⟩
      replace hbX := hbX.trans (hbc.mono hbX.size)
      clear hbc
      try dsimp only
      refine hK.out _ _ (hbX) (fun hHeld => ?_)
      clear hK K
      try simp only [Act.put, List.setIfInBounds_toArray, List.set_cons_zero, List.set_cons_succ]
      refine wpAnyH_take (i := 11) (oi := ⟨some 49, _, _, _, _, _⟩) (v := (.bool (!β))) rfl (by kernel_rfl) (by kernel_rfl) (by kernel_rfl) (fun _ _ _ h => h) (yields_binJ (by rfl) .neq _ _ _ _ rfl (.string ⟨c19.toArray⟩) (.string ⟨oq.toArray⟩) rfl rfl _ (fun _ => rfl) hne) (by assumption) ?_
      try simp only [Act.put, List.setIfInBounds_toArray, List.set_cons_zero, List.set_cons_succ]
      refine wpAnyH_done (by kernel_rfl) ?_ _
      have HX6 := Lib.hid (And.intro hbX (HBW.out.trans (hbX.mono HBW.out.size)))
      clear hbX hne hcut2
      cases β with
      | false =>
        have HCD : Hid (codeJ last bb = 100) := Lib.hid (by
          unfold codeJ
          rw [if_neg (by omega), if_pos (by rw [front_iff last (by omega), HQ.out]; exact HBE.out)])
        have HXX := HX6
        have HE : Hid (openJ sd = (none, sd, 100)) := Lib.hid (open_torn (by rw [HREAD.out, HBB.out, readJ_no (show ¬ codeJ last bb = 0 by rw [HCD.out]; decide)]; exact HCD.out))
        obtain ⟨z, hz1, hz38⟩ := HK2.out
        have HZ38 := Lib.hid hz38
        have k1x := HK1.out.below HXX.out.1 HK1.out.lt
        have k2x := hz1.below HXX.out.1 hz1.lt
        clear hz1 hz38
        go_wp2_with (first
          | (guard_target = wpList _ _ _ (Oper.mk _ (.load 29 _) _ _ _ _ :: _) _ _; refine wpList_load_row rfl 29 _ rfl w.heap.size rfl 29 sv (0, 0) _ k1x Tryd.underlying29 rfl (by rw [HJZ.out.2.2.2]; kernel_rfl) ?_)
          | (guard_target = wpList _ _ _ (Oper.mk _ (.build 39 _) _ _ _ _ :: _) _ _; refine wpList_build rfl 39 _ rfl (by simp only [List.map_toArray, List.map_cons, List.map_nil]; exact HBS.out) ?_; simp only [List.map_toArray, List.map_cons, List.map_nil])
          | (guard_target = wpList _ _ _ (Oper.mk _ (.store 39 _ _) _ _ _ _ :: _) _ _; refine wpList_store_row rfl 39 _ _ rfl (w.heap.size + 1) jz rfl (show _ = Value.agg jz by rw [← HBU.out]; rfl) 39 _ k2x (by rw [HJZ.out.2.1]; kernel_rfl) (by rw [HJZ.out.2.1, HZ38.out]) HJZ.out.2.2.1 ?_))
        refine bodyPost_ret (results_cell_tmp (p := 2) (q := 3) rfl _ _ (w.heap.size + 1) _ _ _ rfl (k2x.setRow _) Tryd.underlying39 rfl (by rw [HJZ.out.2.1]; kernel_rfl)) rfl ⟨below_setRow HXX.out.2 (by omega) _, .agg jz, ?_⟩
        rw [HE.out]
        exact ⟨jz, rfl, show (100 : Int) ≠ 0 by decide, HJZ.out.2.1, HJZ.out.2.2.1, HJZ.out.1.symm⟩
      | true =>
        have HFR : Hid ((bb.take 19 == frontB last (sizeJ bb)) = true) := Lib.hid (by rw [front_iff last (by omega), HQ.out]; exact HBE.out)
        by_cases hgt : n - p - 35 < nj
        · have hgti : (n : Int) - (p : Int) - 35 < (nj : Int) := by omega
          have hcd : codeJ last bb = 20 := by
            unfold codeJ
            rw [if_neg (by omega), if_neg (by rw [HFR.out]; decide), if_pos (by rw [HNJ.out, hbl]; omega)]
          have hread := HREAD.out
          have hbb := HBB.out
          have k4 := HK4.out.below HX6.out.1 HK4.out.lt
          have k1 := HK1.out.below HX6.out.1 HK1.out.lt
          have k2 : ∃ z, Blk WX (w.heap.size + 1) 39 z ∧ z.size = 38 := HK2.out.elim fun z h => ⟨z, h.1.below HX6.out.1 h.1.lt, h.2⟩
          have hbw := HX6.out.2
          have hown := ownsRow_kept HOWN.out HX6.out.1
          have c13 : WX.cell? ⟨w.heap.size, 3, none⟩ = some (.string ⟨sd.bs.toArray⟩) := by rw [k1.cell, ← HSV.out]; rfl
          clear HST HCP HOW HCUT2 HX6 HK4 HK1 HK2 HBW HOWN
          obtain ⟨wr, hwr⟩ : ∃ z, z = WX := ⟨_, rfl⟩
          subst hwr
          have hR : readJ zeroD sd.bs = (recs, last, bb, 20) := by
            rw [hread, hbb, readJ_no (show ¬ codeJ last bb = 0 by rw [hcd]; decide), hcd, List.append_nil]
          have HOJ := Lib.hid (open_done hR)
          obtain ⟨z, k2, hz38⟩ := k2
          have HK4 := Lib.hid k4
          have HK2 := Lib.hid (And.intro k2 hz38)
          have HK1 := Lib.hid k1
          have HBW := Lib.hid hbw
          have HOWN := Lib.hid hown
          have HBL := Lib.hid hbl
          have hv1 : v.oneCell' = true := by
            rcases ownsRow_forms' hown with ⟨rfl, _⟩ | ⟨_, _, rfl⟩ <;> rfl
          have HV1 := Lib.hid hv1
          clear hread hbb hcd hR k4 k2 hbw hown hbl hv1 hz38
          by_cases hpn : p < n
          · have hpni : (p : Int) < (n : Int) := by omega
            have HCT := Lib.hid (fun W => refCut_any sd HS.out (p : Int) W)
            have HE : Hid (openJ sd = if (sd.cut (p : Int)).2 = 0 then (some ⟨recs, last, false⟩, (sd.cut (p : Int)).1, 0) else (none, (sd.cut (p : Int)).1, (sd.cut (p : Int)).2)) := Lib.hid (by
              rw [HOJ.out, HBL.out, if_neg (by omega), HN.out, show n - (n - p) = p by omega])
            obtain ⟨sd', hsd'⟩ : ∃ sd', (sd.cut (p : Int)).1 = sd' := ⟨_, rfl⟩
            obtain ⟨kc, hkc⟩ : ∃ kc, (sd.cut (p : Int)).2 = kc := ⟨_, rfl⟩
            rw [hsd', hkc] at HCT HE
            have HCT' : Hid (∀ W, Calls Tryd.prog 37 #[.agg sv, .int .i64 (p : Int)] W fun e w' => e = .returned (.tuple #[.agg (slabA sd'), .int .i64 kc]) ∧ Below W.heap.size W w') := Lib.hid fun W => by
              have h := HCT.out W
              rw [show sd.v = .agg (slabA sd) from rfl, HSV.out] at h
              exact h
            clear hsd' hkc HCT HOJ
            obtain ⟨sv', hsv'⟩ : ∃ sv', slabA sd' = sv' := ⟨_, rfl⟩
            have hs4' : sv'.size = 4 := by rw [← hsv']; rfl
            have hall' : sv'.all (·.oneCell') = true := by rw [← hsv']; exact slabA_all _
            rw [hsv'] at HCT'
            have HSV' := Lib.hid (And.intro hsv' (And.intro hs4' hall'))
            clear hsv' hs4' hall'
            by_cases hk0 : kc = 0
            · subst hk0
              rw [if_pos rfl] at HE
              go_upto_region 17 with (first
                | (guard_target = wpList _ _ _ (Oper.mk _ (.load 29 _) _ _ _ _ :: _) _ _; refine wpList_load_row rfl 29 _ rfl w.heap.size rfl 29 sv (0, 0) _ k1 Tryd.underlying29 rfl (by rw [HJZ.out.2.2.2]; kernel_rfl) ?_)
                | (go_at_call 37; refine (HCT'.out wr).mono ?_; rintro e W5 ⟨rfl, hb5⟩; have HB5 := Lib.hid hb5; clear hb5)
                | (guard_target = wpList _ _ _ (Oper.mk _ (.store 29 _ _) _ _ _ _ :: _) _ _; refine wpList_store_row rfl 29 _ _ rfl W5.heap.size sv' rfl rfl 29 _ (heap_alloc_new W5 _) (by rw [HSV'.out.2.1]; kernel_rfl) (by rw [HSV'.out.2.1]; rfl) HSV'.out.2.2 ?_; rw [World.setRow_alloc_new]))
              obtain ⟨W6, hW6⟩ : ∃ W6, W5.alloc (.cells sv' 29) = W6 := ⟨_, rfl⟩
              rw [hW6]
              have hb6 : Below wr.heap.size wr W6 := by rw [← hW6]; exact HB5.out.alloc HB5.out.size _
              have k9 : Blk W6 W5.heap.size 29 sv' := by rw [← hW6]; exact Blk.newAt _ _ rfl rfl
              have k46 := HK4.out.below hb6 HK4.out.lt
              have HB6 := Lib.hid (And.intro hb6 (HBW.out.trans (hb6.mono HBW.out.size)))
              clear hW6 hb6
              have k26 := HK2.out.1.below HB6.out.1 HK2.out.1.lt
              have HK26 := Lib.hid k26
              have own6 := ownsRow_kept HOWN.out HB6.out.1
              have HO6 := Lib.hid own6
              clear k26 own6
              go_wp2_with (first
                | (guard_target = wpList _ _ _ (Oper.mk _ (.load 29 _) _ _ _ _ :: _) _ _; refine wpList_load_row rfl 29 _ rfl W5.heap.size rfl 29 sv' (0, 0) _ k9 Tryd.underlying29 rfl (by rw [HSV'.out.2.1]; kernel_rfl) ?_)
                | (guard_target = wpList _ _ _ (Oper.mk _ (.store 29 _ _) _ _ _ _ :: _) _ _; refine wpList_store_partJ rfl 29 _ _ rfl g4 0 4 38 (rjF sd v last false) (rjF sd' v last false) rfl (show _ = Value.agg (arr 4 (rjF sd' v last false)) by rw [← slabA_arr, HSV'.out.1]; rfl) 39 k46 (by kernel_rfl) (by omega) (fun j hj => rj_one4 hj) ?_; intro w7 hw7; rw [rj_put] at hw7; have k47 : Blk w7 g4 39 (arr 38 (rjF sd' v last false)) := (by rw [hw7]; exact k46.setRow _); have ht7 : Turn (fun i => i = g4) W6 w7 := (by rw [hw7]; exact turn_setRowR W6 g4 _); have k27 := ht7.blk HK26.out (fun e => by have := HG4.out; omega); have HT7 := Lib.hid ht7; clear hw7 ht7)
                | (guard_target = wpList _ _ _ (Oper.mk _ (.load 39 _) _ _ _ _ :: _) _ _; refine wpList_load_row rfl 39 _ rfl g4 rfl 39 _ (0, 0) _ k47 Tryd.underlying39 rfl (by rw [arr_size]; kernel_rfl) ?_)
                | (guard_target = wpList _ _ _ (Oper.mk _ (.store 39 _ _) _ _ _ _ :: _) _ _; refine wpList_store_row rfl 39 _ _ rfl (w.heap.size + 1) (arr 38 (rjF sd' v last false)) rfl rfl 39 _ k27 (by rw [arr_size]; kernel_rfl) (by rw [arr_size, HK2.out.2]) (rj_all HV1.out) ?_))
              have ht7 := HT7.out
              have hb7 := below_turnR HB6.out.2 (Nat.le_refl _) ht7 (fun i hi => by have := HG4.out; omega)
              have own7 := ht7.own HO6.out (fun i hi e => own_neR HOWN.out HK4.out (by decide) (by rw [hi, e]))
              refine bodyPost_ret (results_cell_tmp (p := 2) (q := 3) rfl _ _ (w.heap.size + 1) _ _ _ rfl (k27.setRow _) Tryd.underlying39 rfl (by rw [arr_size]; kernel_rfl)) rfl ⟨below_setRow hb7 (by omega) _, v, ?_⟩
              rw [HE.out]
              exact ⟨rfl, rfl, (turn_setRowR w7 (w.heap.size + 1) _).own own7 (fun i hi e => own_neR HOWN.out HK2.out.1 (by decide) (by rw [hi, e]))⟩
            · rw [if_neg hk0] at HE
              have hk0' : (kc == 0) = false := by rw [beq_eq_false_iff_ne]; exact hk0
              have HKC := Lib.hid hk0
              clear hk0
              go_wp2_with (first
                | (guard_target = wpList _ _ _ (Oper.mk _ (.load 29 _) _ _ _ _ :: _) _ _; refine wpList_load_row rfl 29 _ rfl w.heap.size rfl 29 sv (0, 0) _ k1 Tryd.underlying29 rfl (by rw [HJZ.out.2.2.2]; kernel_rfl) ?_; clear k1)
                | (go_at_call 37; refine (HCT'.out wr).mono ?_; rintro e W5 ⟨rfl, hb5⟩; have HB5 := Lib.hid hb5; clear hb5)
                | (guard_target = wpList _ _ _ (Oper.mk _ (.store 29 _ _) _ _ _ _ :: _) _ _; refine wpList_store_row rfl 29 _ _ rfl W5.heap.size sv' rfl rfl 29 _ (heap_alloc_new W5 _) (by rw [HSV'.out.2.1]; kernel_rfl) (by rw [HSV'.out.2.1]; rfl) HSV'.out.2.2 ?_; rw [World.setRow_alloc_new]; have hb6 : Below wr.heap.size wr (W5.alloc (.cells sv' 29)) := HB5.out.alloc HB5.out.size _; have k16 := HK1.out.below hb6 HK1.out.lt; have k26 := HK2.out.1.below hb6 HK2.out.1.lt; have HB6 := Lib.hid (HBW.out.trans (hb6.mono HBW.out.size)); clear hb6)
                | (guard_target = wpList _ _ _ (Oper.mk _ (.load 29 _) _ _ _ _ :: _) _ _; refine wpList_load_row rfl 29 _ rfl w.heap.size rfl 29 sv (0, 0) _ k16 Tryd.underlying29 rfl (by rw [HJZ.out.2.2.2]; kernel_rfl) ?_)
                | (guard_target = wpList _ _ _ (Oper.mk _ (.build 39 _) _ _ _ _ :: _) _ _; refine wpList_build rfl 39 _ rfl (by simp only [List.map_toArray, List.map_cons, List.map_nil]; exact HBS.out) ?_; simp only [List.map_toArray, List.map_cons, List.map_nil])
                | (guard_target = wpList _ _ _ (Oper.mk _ (.store 39 _ _) _ _ _ _ :: _) _ _; refine wpList_store_row rfl 39 _ _ rfl (w.heap.size + 1) jz rfl (show _ = Value.agg jz by rw [← HBU.out]; rfl) 39 _ k26 (by rw [HJZ.out.2.1]; kernel_rfl) (by rw [HJZ.out.2.1, HK2.out.2]) HJZ.out.2.2.1 ?_))
              refine bodyPost_ret (results_cell_tmp (p := 2) (q := 3) rfl _ _ (w.heap.size + 1) _ _ _ rfl (k26.setRow _) Tryd.underlying39 rfl (by rw [HJZ.out.2.1]; kernel_rfl)) rfl ⟨below_setRow HB6.out (by omega) _, .agg jz, ?_⟩
              rw [HE.out]
              exact ⟨jz, rfl, HKC.out, HJZ.out.2.1, HJZ.out.2.2.1, HJZ.out.1.symm⟩
          · exact absurd (show p < n by omega) hpn
        · have hgti : ¬ (n : Int) - (p : Int) - 35 < (nj : Int) := by omega
          have hnj4 : (nj : Int) ≤ 4194304 := by omega
          have hdl : (dataJ bb).length = nj := by unfold dataJ; rw [List.length_take, List.length_drop, HNJ.out]; omega
          have hcut3 : ∀ W, (Instr.sliceAt 9 (.string ⟨sd.bs.toArray⟩) (some (.int .i64 ((p : Int) + 35))) (some (.int .i64 ((p : Int) + 35 + (nj : Int)))) none).run Tryd.prog W = .ok (.string ⟨(dataJ bb).toArray⟩) W := fun W => by
            have h := cutJ sd.bs p 35 (35 + nj) ((p : Int) + 35) ((p : Int) + 35 + (nj : Int)) (by omega) (by omega) (by omega) (by rw [HN.out]; omega) W
            rw [HBB.out] at h
            have e : (bb.take (35 + nj)).drop 35 = dataJ bb := by
              unfold dataJ
              rw [HNJ.out, List.drop_take, show 35 + nj - 35 = nj by omega]
            rw [e] at h
            exact h
          have HCUT4 : Hid (∀ W, (Instr.sliceAt 9 (.string ⟨sd.bs.toArray⟩) (some (.int .i64 (p : Int))) (some (.int .i64 ((p : Int) + 35 + (nj : Int)))) none).run Tryd.prog W = .ok (.string ⟨(bb.take (35 + nj)).toArray⟩) W) := Lib.hid fun W => by
            have h := cutJ sd.bs p 0 (35 + nj) (p : Int) ((p : Int) + 35 + (nj : Int)) (by omega) (by omega) (by omega) (by rw [HN.out]; omega) W
            rw [HBB.out, List.drop_zero] at h
            exact h
          obtain ⟨dd, hdd⟩ : ∃ dd, dataJ bb = dd := ⟨_, rfl⟩
          rw [hdd] at hcut3 hdl
          have HDD := Lib.hid hdd
          have HREC := Lib.hid (refRecord_any last dd (by omega))
          have HLNK := Lib.hid (refLink_any last dd (by omega))
          rw [HLR.out] at HREC HLNK
          have HDL := Lib.hid hdl
          obtain ⟨γ, hγ⟩ : ∃ γ, (bb.take (35 + nj) == recB last dd) = γ := ⟨_, rfl⟩
          have hne := fun W => neq_str (bb.take (35 + nj)) (recB last dd) W
          rw [hγ] at hne
          have HGA := Lib.hid hγ
          obtain ⟨tb, htb⟩ : ∃ tb, bb.take (35 + nj) = tb := ⟨_, rfl⟩
          obtain ⟨rb, hrb⟩ : ∃ rb, recB last dd = rb := ⟨_, rfl⟩
          rw [htb] at hne HCUT4
          rw [hrb] at hne HREC
          have k1x := HK1.out.below HX6.out.1 HK1.out.lt
          have c13 : WX.cell? ⟨w.heap.size, 3, none⟩ = some (.string ⟨sd.bs.toArray⟩) := by rw [k1x.cell, ← HSV.out]; rfl
          clear hdd hdl hγ htb hrb hgt k1x
          go_upto_region 10 with fail
          have hbX : Below WX.heap.size WX WX.drew := (Below.refl _ _).drew
          have hcut4 := HCUT4.out
          clear hcut3
          refine wp_region_held_drew (S := fun W' => Below WX.heap.size WX W') (by kernel_rfl) ?_ (fun hHeld => ?_)
          · exact hbX
          refine wpAnyH_take (i := 0) (oi := ⟨some 69, _, _, _, _, _⟩) (v := ?_) rfl (by kernel_rfl) (by kernel_rfl) (by kernel_rfl) (fun _ _ _ h => h) (Or.inl ⟨by rfl, ?_⟩) (by assumption) ?_
          rotate_left
          · intro w hSw; (try dsimp only at hSw); go_simp; try (with_reducible rfl)
          rotate_left 0
          try simp only [Act.put, List.setIfInBounds_toArray, List.set_cons_zero, List.set_cons_succ]
          refine wpAnyH_take (i := 1) (oi := ⟨some 70, _, _, _, _, _⟩) (v := (.string ⟨sd.bs.toArray⟩)) rfl (by kernel_rfl) (by kernel_rfl) (by kernel_rfl) (fun _ _ _ h => h) (yields_loadR (by rfl) 9 _ rfl (.pointer (some ⟨w.heap.size, 3, none⟩)) rfl _ (fun W' hS => HST.out W' (HX6.out.1.trans (hS.mono HX6.out.1.size)))) (by assumption) ?_
          try simp only [Act.put, List.setIfInBounds_toArray, List.set_cons_zero, List.set_cons_succ]
          refine wpAnyH_take (i := 2) (oi := ⟨some 71, _, _, _, _, _⟩) (v := ?_) rfl (by kernel_rfl) (by kernel_rfl) (by kernel_rfl) (fun _ _ _ h => h) (Or.inl ⟨by rfl, ?_⟩) (by assumption) ?_
          rotate_left
          · intro w hSw; (try dsimp only at hSw); go_simp; try (with_reducible rfl)
          rotate_left 0
          try simp only [Act.put, List.setIfInBounds_toArray, List.set_cons_zero, List.set_cons_succ]
          refine wpAnyH_take (i := 3) (oi := ⟨some 72, _, _, _, _, _⟩) (v := ?_) rfl (by kernel_rfl) (by kernel_rfl) (by kernel_rfl) (fun _ _ _ h => h) (Or.inl ⟨by rfl, ?_⟩) (by assumption) ?_
          rotate_left
          · intro w hSw; (try dsimp only at hSw); go_simp; try (with_reducible rfl)
          rotate_left 0
          try simp only [Act.put, List.setIfInBounds_toArray, List.set_cons_zero, List.set_cons_succ]
          refine wpAnyH_take (i := 4) (oi := ⟨some 73, _, _, _, _, _⟩) (v := (.int .i64 ((p : Int) + 35))) rfl (by kernel_rfl) (by kernel_rfl) (by kernel_rfl) (fun _ _ _ h => h) (yields_binJ (by rfl) .add _ _ _ _ rfl (.int .i64 (p : Int)) (.int .i64 35) rfl rfl _ (fun _ => rfl) (fun w' => int_addJ (p : Int) 35 ((p : Int) + 35) (by omega) (by omega) (by omega) w')) (by assumption) ?_
          try simp only [Act.put, List.setIfInBounds_toArray, List.set_cons_zero, List.set_cons_succ]
          refine wpAnyH_take (i := 5) (oi := ⟨some 74, _, _, _, _, _⟩) (v := ?_) rfl (by kernel_rfl) (by kernel_rfl) (by kernel_rfl) (fun _ _ _ h => h) (Or.inl ⟨by rfl, ?_⟩) (by assumption) ?_
          rotate_left
          · intro w hSw; (try dsimp only at hSw); go_simp; try (with_reducible rfl)
          rotate_left 0
          try simp only [Act.put, List.setIfInBounds_toArray, List.set_cons_zero, List.set_cons_succ]
          refine wpAnyH_take (i := 6) (oi := ⟨some 75, _, _, _, _, _⟩) (v := (.int .i64 ((p : Int) + 35 + (nj : Int)))) rfl (by kernel_rfl) (by kernel_rfl) (by kernel_rfl) (fun _ _ _ h => h) (yields_binJ (by rfl) .add _ _ _ _ rfl (.int .i64 ((p : Int) + 35)) (.int .i64 (nj : Int)) rfl rfl _ (fun _ => rfl) (fun w' => int_addJ ((p : Int) + 35) (nj : Int) ((p : Int) + 35 + (nj : Int)) (by omega) (by omega) (by omega) w')) (by assumption) ?_
          try simp only [Act.put, List.setIfInBounds_toArray, List.set_cons_zero, List.set_cons_succ]
          refine wpAnyH_take (i := 7) (oi := ⟨some 76, _, _, _, _, _⟩) (v := ?_) rfl (by kernel_rfl) (by kernel_rfl) (by kernel_rfl) (fun _ _ _ h => h) (Or.inl ⟨by rfl, ?_⟩) (by assumption) ?_
          rotate_left
          · intro w hSw; (try dsimp only at hSw); go_simp; try (with_reducible rfl)
          rotate_left 0
          try simp only [Act.put, List.setIfInBounds_toArray, List.set_cons_zero, List.set_cons_succ]
          refine wpAnyH_take (i := 8) (oi := ⟨some 77, _, _, _, _, _⟩) (v := ?_) rfl (by kernel_rfl) (by kernel_rfl) (by kernel_rfl) (fun _ _ _ h => h) (Or.inl ⟨by rfl, ?_⟩) (by assumption) ?_
          rotate_left
          · intro w hSw; (try dsimp only at hSw); go_simp; try (with_reducible rfl)
          rotate_left 0
          try simp only [Act.put, List.setIfInBounds_toArray, List.set_cons_zero, List.set_cons_succ]
          refine wpAnyH_take (i := 9) (oi := ⟨some 78, _, _, _, _, _⟩) (v := (.agg lr)) rfl (by kernel_rfl) (by kernel_rfl) (by kernel_rfl) (fun _ _ _ h => h) (yields_loadR (by rfl) 37 _ rfl (.pointer (some ⟨g4, 5, none⟩)) rfl _ (fun W' hS => HCP.out W' (HX6.out.1.trans (hS.mono HX6.out.1.size)))) (by assumption) ?_
          try simp only [Act.put, List.setIfInBounds_toArray, List.set_cons_zero, List.set_cons_succ]
          refine wpAnyH_take (i := 10) (oi := ⟨some 79, _, _, _, _, _⟩) (v := ?_) rfl (by kernel_rfl) (by kernel_rfl) (by kernel_rfl) (fun _ _ _ h => h) (Or.inl ⟨by rfl, ?_⟩) (by assumption) ?_
          rotate_left
          · intro w hSw; (try dsimp only at hSw); go_simp; try (with_reducible rfl)
          rotate_left 0
          try simp only [Act.put, List.setIfInBounds_toArray, List.set_cons_zero, List.set_cons_succ]
          refine wpAnyH_ready (rs := [11]) (by kernel_rfl) (by simp) ?_
          refine (AllReadyH.cons (o := ⟨some 80, _, _, _, _, _⟩) rfl (fun K hK => ?_) AllReadyH.nil)
          (try rw [if_pos (by rfl)])
          go_simp
          refine (HREC.out _).mono ?_
          rintro e WY ⟨rfl, hbc⟩
          replace hbX := hbX.trans (hbc.mono hbX.size)
          clear hbc
          try dsimp only
          refine hK.out _ _ (hbX) (fun hHeld => ?_)
          clear hK K
          try simp only [Act.put, List.setIfInBounds_toArray, List.set_cons_zero, List.set_cons_succ]
          refine wpAnyH_take (i := 12) (oi := ⟨some 81, _, _, _, _, _⟩) (v := (.bool (!γ))) rfl (by kernel_rfl) (by kernel_rfl) (by kernel_rfl) (fun _ _ _ h => h) (yields_binJ (by rfl) .neq _ _ _ _ rfl (.string ⟨tb.toArray⟩) (.string ⟨rb.toArray⟩) rfl rfl _ (fun _ => rfl) hne) (by assumption) ?_
          try simp only [Act.put, List.setIfInBounds_toArray, List.set_cons_zero, List.set_cons_succ]
          refine wpAnyH_done (by kernel_rfl) ?_ _
          have HX7 := Lib.hid (And.intro (HX6.out.1.trans (hbX.mono HX6.out.1.size)) (HX6.out.2.trans (hbX.mono HX6.out.2.size)))
          clear hbX hne hcut4 hHeld
          cases γ with
          | false =>
            have HCD : Hid (codeJ last bb = 100) := Lib.hid (by
              have h := rec_iff last (b := bb) (by omega) HFR.out (by rw [HNJ.out]; omega)
              rw [HNJ.out, HDD.out, HGA.out] at h
              unfold codeJ
              rw [if_neg (by omega), if_neg (by rw [HFR.out]; decide), if_neg (by rw [HNJ.out]; omega), HDD.out, if_pos h.symm])
            have HXX := HX7
            have HE : Hid (openJ sd = (none, sd, 100)) := Lib.hid (open_torn (by rw [HREAD.out, HBB.out, readJ_no (show ¬ codeJ last bb = 0 by rw [HCD.out]; decide)]; exact HCD.out))
            obtain ⟨z, hz1, hz38⟩ := HK2.out
            have HZ38 := Lib.hid hz38
            have k1x := HK1.out.below HXX.out.1 HK1.out.lt
            have k2x := hz1.below HXX.out.1 hz1.lt
            clear hz1 hz38
            go_wp2_with (first
              | (guard_target = wpList _ _ _ (Oper.mk _ (.load 29 _) _ _ _ _ :: _) _ _; refine wpList_load_row rfl 29 _ rfl w.heap.size rfl 29 sv (0, 0) _ k1x Tryd.underlying29 rfl (by rw [HJZ.out.2.2.2]; kernel_rfl) ?_)
              | (guard_target = wpList _ _ _ (Oper.mk _ (.build 39 _) _ _ _ _ :: _) _ _; refine wpList_build rfl 39 _ rfl (by simp only [List.map_toArray, List.map_cons, List.map_nil]; exact HBS.out) ?_; simp only [List.map_toArray, List.map_cons, List.map_nil])
              | (guard_target = wpList _ _ _ (Oper.mk _ (.store 39 _ _) _ _ _ _ :: _) _ _; refine wpList_store_row rfl 39 _ _ rfl (w.heap.size + 1) jz rfl (show _ = Value.agg jz by rw [← HBU.out]; rfl) 39 _ k2x (by rw [HJZ.out.2.1]; kernel_rfl) (by rw [HJZ.out.2.1, HZ38.out]) HJZ.out.2.2.1 ?_))
            refine bodyPost_ret (results_cell_tmp (p := 2) (q := 3) rfl _ _ (w.heap.size + 1) _ _ _ rfl (k2x.setRow _) Tryd.underlying39 rfl (by rw [HJZ.out.2.1]; kernel_rfl)) rfl ⟨below_setRow HXX.out.2 (by omega) _, .agg jz, ?_⟩
            rw [HE.out]
            exact ⟨jz, rfl, show (100 : Int) ≠ 0 by decide, HJZ.out.2.1, HJZ.out.2.2.1, HJZ.out.1.symm⟩
          | true =>
            have HCD : Hid (codeJ last bb = 0) := Lib.hid (by
              have h := rec_iff last (b := bb) (by omega) HFR.out (by rw [HNJ.out]; omega)
              rw [HNJ.out, HDD.out, HGA.out] at h
              unfold codeJ
              rw [if_neg (by omega), if_neg (by rw [HFR.out]; decide), if_neg (by rw [HNJ.out]; omega), HDD.out, if_neg (by rw [← h]; decide)])
            have k4y := HK4.out.below HX7.out.1 HK4.out.lt
            have own7 := ownsRow_kept HOWN.out HX7.out.1
            obtain ⟨v', WZ, hrun, hownZ, hgr, hat⟩ := app_text HX7.out.2.size own7 dd (by omega)
            have hvg : v.ownBlock ≠ some g4 := own_neR own7 k4y (by decide)
            have k4z : Blk WZ g4 39 (arr 38 (rjF sd v last false)) := k4y.grown hgr (fun e => hvg e.symm)
            have hbZ : Below w.heap.size w WZ := HX7.out.2.grown hgr HX7.out.2.size (fun b hb => (own7.lt b hb).1)
            have hv' : v'.oneCell' = true := by
              rcases ownsRow_forms' hownZ with ⟨rfl, _⟩ | ⟨_, _, rfl⟩ <;> rfl
            obtain ⟨Av, cv, rfl, _⟩ := own_len hownZ
            have c4 : WY.cell? ⟨g4, 4, none⟩ = some v := by rw [k4y.cell, arr_get, if_pos (by omega)]; rfl
            have d4 : WZ.cell? ⟨g4, 4, none⟩ = some v := by rw [k4z.cell, arr_get, if_pos (by omega)]; rfl
            have f4 := k4z.frozen 4
            have k1z : Blk WZ w.heap.size 29 sv := (HK1.out.below HX7.out.1 HK1.out.lt).grown hgr (fun e => own_neR own7 (HK1.out.below HX7.out.1 HK1.out.lt) (by decide) e.symm)
            have k2z : ∃ z, Blk WZ (w.heap.size + 1) 39 z ∧ z.size = 38 := HK2.out.elim fun z h => ⟨z, (h.1.below HX7.out.1 h.1.lt).grown hgr (fun e => own_neR own7 (h.1.below HX7.out.1 h.1.lt) (by decide) e.symm), h.2⟩
            have hownZ4 : ∀ x, (WZ.setCell ⟨g4, 4, none⟩ x).ownsRow w.heap.size 9 1 (.slice Av (recs.length + 1) cv) (recs.length + 1) (strC (recs ++ [dd])).flatten := fun x => (Turn.setCell (S := fun i => i = g4) (Turn.refl _ WZ) (p := ⟨g4, 4, none⟩) (fun _ => rfl) x).own hownZ (fun b hb e => own_neR hownZ k4z (by decide) (by rw [hb, e]))
            have k4s : ∀ x, Blk (WZ.setCell ⟨g4, 4, none⟩ x) g4 39 (arr 38 (rjF sd x last false)) := fun x => (k4z.store 4 x).same (rj_set4 sd v x last false)
            have HRUN := Lib.hid hrun
            have HZ := Lib.hid (And.intro hbZ (And.intro k1z (And.intro k2z (And.intro hownZ4 k4s))))
            clear k4y own7 hrun hownZ hgr hat hvg k4z hbZ hv' k1z k2z hownZ4 k4s
            go_upto_region 13 with (at_builtin; refine wpList_append_run rfl (.tmp 85) (.tmp 87) _ _ rfl _ _ rfl rfl _ _ HRUN.out ?_)
            obtain ⟨W8, hW8⟩ : ∃ z, WZ.setCell ⟨g4, 4, none⟩ (.slice Av (recs.length + 1) cv) = z := ⟨_, rfl⟩
            rw [hW8]
            have k48 : Blk W8 g4 39 (arr 38 (rjF sd (.slice Av (recs.length + 1) cv) last false)) := by rw [← hW8]; exact HZ.out.2.2.2.2 _
            have own8 : W8.ownsRow w.heap.size 9 1 (.slice Av (recs.length + 1) cv) (recs.length + 1) (strC (recs ++ [dd])).flatten := by rw [← hW8]; exact HZ.out.2.2.2.1 _
            have ht8 : Turn (fun i => i = g4) WZ W8 := by rw [← hW8]; exact Turn.setCell (S := fun i => i = g4) (Turn.refl _ WZ) (p := ⟨g4, 4, none⟩) (fun _ => rfl) _
            have k18 := ht8.blk HZ.out.2.1 (fun e => by have := HG4.out; omega)
            have hb8 := below_turnR HZ.out.1 (Nat.le_refl _) ht8 (fun i hi => by have := HG4.out; omega)
            have k28 : ∃ z, Blk W8 (w.heap.size + 1) 39 z ∧ z.size = 38 := HZ.out.2.2.1.elim fun z h => ⟨z, ht8.blk h.1 (fun e => by have := HG4.out; omega), h.2⟩
            have HLL := Lib.hid (load_lastR k48)
            rw [HLR.out] at HLL
            have H8 := Lib.hid (And.intro k48 (And.intro own8 (And.intro k18 (And.intro hb8 k28))))
            clear hW8 k48 own8 ht8 k18 hb8 k28 HRUN HZ c4 d4 f4
            obtain ⟨la, hla⟩ : ∃ l, withD last dd = l := ⟨_, rfl⟩
            rw [hla] at HLNK
            have HLA := Lib.hid hla
            clear hla
            go_wp2_with (first
              | (guard_target = wpList _ _ _ (Oper.mk _ (.load 37 _) _ _ _ _ :: _) _ _; refine wpList_load_runT (by rfl) 37 _ rfl (.pointer (some ⟨g4, 5, none⟩)) (.agg lr) rfl HLL.out ?_)
              | (go_at_call 29; refine (HLNK.out W8).mono ?_; rintro e W9 ⟨rfl, hb9⟩; have k49 := H8.out.1.below hb9 H8.out.1.lt; have HB9 := Lib.hid hb9; clear hb9)
              | (guard_target = wpList _ _ _ (Oper.mk _ (.store 37 _ _) _ _ _ _ :: _) _ _; refine wpList_store_partJ rfl 37 _ _ rfl g4 5 32 38 (rjF sd (.slice Av (recs.length + 1) cv) last false) (fun i => bv (la i)) rfl rfl 39 k49 (by kernel_rfl) (by omega) (fun j hj => rfl) ?_; intro wx hwx; rw [rj_lastR] at hwx; have k4x : Blk wx g4 39 (arr 38 (rjF sd (.slice Av (recs.length + 1) cv) la false)) := (by rw [hwx]; exact k49.setRow _); have htx : Turn (fun i => i = g4) W9 wx := (by rw [hwx]; exact turn_setRowR W9 g4 _); have HKX := Lib.hid k4x; have HTX := Lib.hid htx; clear hwx htx k49 k4x))
            have htx := HTX.out
            have hb9 := H8.out.2.2.2.1.trans (HB9.out.mono H8.out.2.2.2.1.size)
            refine ⟨⟨p + (35 + nj), by rw [Int.natCast_add, Int.natCast_add]; rfl, recs ++ [dd], la, .slice Av (recs.length + 1) cv, HKX.out, ?_, ?_, ?_, ?_, ?_, ?_, ?_⟩, ?_⟩
            · rw [List.length_append, List.length_singleton]
              exact htx.own (ownsRow_kept H8.out.2.1 HB9.out) (fun i hi e => own_neR H8.out.2.1 H8.out.1 (by decide) (by rw [hi, e]))
            · rw [HSV.out]
              exact htx.blk (H8.out.2.2.1.below HB9.out H8.out.2.2.1.lt) (fun e => by have := HG4.out; omega)
            · exact H8.out.2.2.2.2.elim fun z h => ⟨z, htx.blk (h.1.below HB9.out h.1.lt) (fun e => by have := HG4.out; omega), h.2⟩
            · exact below_turnR hb9 (Nat.le_refl _) htx (fun i hi => by have := HG4.out; omega)
            · rw [HN.out]
              omega
            · rw [List.length_append, List.length_singleton]
              omega
            · rw [HREAD.out, HBB.out, readJ_yes HCD.out, HNJ.out, HDD.out, HLA.out, ← HBB.out, List.drop_drop, List.append_assoc]
              rfl
            · show n - ((p : Int) + (35 + (nj : Int))).toNat < n - ((p : Int)).toNat
              omega
    · have hc1 : ¬ (35 : Int) ≤ (n : Int) - (p : Int) := by omega
      have hcd : codeJ last bb = 20 := by unfold codeJ; rw [if_pos (by omega)]
      have hR : readJ zeroD sd.bs = (recs, last, bb, 20) := by
        rw [hread, hbb, readJ_no (show ¬ codeJ last bb = 0 by rw [hcd]; decide), hcd, List.append_nil]
      have HOJ := Lib.hid (open_done hR)
      obtain ⟨z, k2, hz38⟩ := k2
      have HK4 := Lib.hid k4
      have HK2 := Lib.hid (And.intro k2 hz38)
      have HK1 := Lib.hid k1
      have HBW := Lib.hid hbw
      have HOWN := Lib.hid hown
      have HBL := Lib.hid hbl
      have hv1 : v.oneCell' = true := by
        rcases ownsRow_forms' hown with ⟨rfl, _⟩ | ⟨_, _, rfl⟩ <;> rfl
      have HV1 := Lib.hid hv1
      clear hread hbb hcd hR k4 k2 hbw hown hbl hv1 hz38
      by_cases hpn : p < n
      · have hpni : (p : Int) < (n : Int) := by omega
        have HCT := Lib.hid (fun W => refCut_any sd HS.out (p : Int) W)
        have HE : Hid (openJ sd = if (sd.cut (p : Int)).2 = 0 then (some ⟨recs, last, false⟩, (sd.cut (p : Int)).1, 0) else (none, (sd.cut (p : Int)).1, (sd.cut (p : Int)).2)) := Lib.hid (by
          rw [HOJ.out, HBL.out, if_neg (by omega), HN.out, show n - (n - p) = p by omega])
        obtain ⟨sd', hsd'⟩ : ∃ sd', (sd.cut (p : Int)).1 = sd' := ⟨_, rfl⟩
        obtain ⟨kc, hkc⟩ : ∃ kc, (sd.cut (p : Int)).2 = kc := ⟨_, rfl⟩
        rw [hsd', hkc] at HCT HE
        have HCT' : Hid (∀ W, Calls Tryd.prog 37 #[.agg sv, .int .i64 (p : Int)] W fun e w' => e = .returned (.tuple #[.agg (slabA sd'), .int .i64 kc]) ∧ Below W.heap.size W w') := Lib.hid fun W => by
          have h := HCT.out W
          rw [show sd.v = .agg (slabA sd) from rfl, HSV.out] at h
          exact h
        clear hsd' hkc HCT HOJ
        obtain ⟨sv', hsv'⟩ : ∃ sv', slabA sd' = sv' := ⟨_, rfl⟩
        have hs4' : sv'.size = 4 := by rw [← hsv']; rfl
        have hall' : sv'.all (·.oneCell') = true := by rw [← hsv']; exact slabA_all _
        rw [hsv'] at HCT'
        have HSV' := Lib.hid (And.intro hsv' (And.intro hs4' hall'))
        clear hsv' hs4' hall'
        by_cases hk0 : kc = 0
        · subst hk0
          rw [if_pos rfl] at HE
          go_upto_region 17 with (first
            | (guard_target = wpList _ _ _ (Oper.mk _ (.load 29 _) _ _ _ _ :: _) _ _; refine wpList_load_row rfl 29 _ rfl w.heap.size rfl 29 sv (0, 0) _ k1 Tryd.underlying29 rfl (by rw [HJZ.out.2.2.2]; kernel_rfl) ?_)
            | (go_at_call 37; refine (HCT'.out wr).mono ?_; rintro e W5 ⟨rfl, hb5⟩; have HB5 := Lib.hid hb5; clear hb5)
            | (guard_target = wpList _ _ _ (Oper.mk _ (.store 29 _ _) _ _ _ _ :: _) _ _; refine wpList_store_row rfl 29 _ _ rfl W5.heap.size sv' rfl rfl 29 _ (heap_alloc_new W5 _) (by rw [HSV'.out.2.1]; kernel_rfl) (by rw [HSV'.out.2.1]; rfl) HSV'.out.2.2 ?_; rw [World.setRow_alloc_new]))
          obtain ⟨W6, hW6⟩ : ∃ W6, W5.alloc (.cells sv' 29) = W6 := ⟨_, rfl⟩
          rw [hW6]
          have hb6 : Below wr.heap.size wr W6 := by rw [← hW6]; exact HB5.out.alloc HB5.out.size _
          have k9 : Blk W6 W5.heap.size 29 sv' := by rw [← hW6]; exact Blk.newAt _ _ rfl rfl
          have k46 := HK4.out.below hb6 HK4.out.lt
          have HB6 := Lib.hid (And.intro hb6 (HBW.out.trans (hb6.mono HBW.out.size)))
          clear hW6 hb6
          have k26 := HK2.out.1.below HB6.out.1 HK2.out.1.lt
          have HK26 := Lib.hid k26
          have own6 := ownsRow_kept HOWN.out HB6.out.1
          have HO6 := Lib.hid own6
          clear k26 own6
          go_wp2_with (first
            | (guard_target = wpList _ _ _ (Oper.mk _ (.load 29 _) _ _ _ _ :: _) _ _; refine wpList_load_row rfl 29 _ rfl W5.heap.size rfl 29 sv' (0, 0) _ k9 Tryd.underlying29 rfl (by rw [HSV'.out.2.1]; kernel_rfl) ?_)
            | (guard_target = wpList _ _ _ (Oper.mk _ (.store 29 _ _) _ _ _ _ :: _) _ _; refine wpList_store_partJ rfl 29 _ _ rfl g4 0 4 38 (rjF sd v last false) (rjF sd' v last false) rfl (show _ = Value.agg (arr 4 (rjF sd' v last false)) by rw [← slabA_arr, HSV'.out.1]; rfl) 39 k46 (by kernel_rfl) (by omega) (fun j hj => rj_one4 hj) ?_; intro w7 hw7; rw [rj_put] at hw7; have k47 : Blk w7 g4 39 (arr 38 (rjF sd' v last false)) := (by rw [hw7]; exact k46.setRow _); have ht7 : Turn (fun i => i = g4) W6 w7 := (by rw [hw7]; exact turn_setRowR W6 g4 _); have k27 := ht7.blk HK26.out (fun e => by have := HG4.out; omega); have HT7 := Lib.hid ht7; clear hw7 ht7)
            | (guard_target = wpList _ _ _ (Oper.mk _ (.load 39 _) _ _ _ _ :: _) _ _; refine wpList_load_row rfl 39 _ rfl g4 rfl 39 _ (0, 0) _ k47 Tryd.underlying39 rfl (by rw [arr_size]; kernel_rfl) ?_)
            | (guard_target = wpList _ _ _ (Oper.mk _ (.store 39 _ _) _ _ _ _ :: _) _ _; refine wpList_store_row rfl 39 _ _ rfl (w.heap.size + 1) (arr 38 (rjF sd' v last false)) rfl rfl 39 _ k27 (by rw [arr_size]; kernel_rfl) (by rw [arr_size, HK2.out.2]) (rj_all HV1.out) ?_))
          have ht7 := HT7.out
          have hb7 := below_turnR HB6.out.2 (Nat.le_refl _) ht7 (fun i hi => by have := HG4.out; omega)
          have own7 := ht7.own HO6.out (fun i hi e => own_neR HOWN.out HK4.out (by decide) (by rw [hi, e]))
          refine bodyPost_ret (results_cell_tmp (p := 2) (q := 3) rfl _ _ (w.heap.size + 1) _ _ _ rfl (k27.setRow _) Tryd.underlying39 rfl (by rw [arr_size]; kernel_rfl)) rfl ⟨below_setRow hb7 (by omega) _, v, ?_⟩
          rw [HE.out]
          exact ⟨rfl, rfl, (turn_setRowR w7 (w.heap.size + 1) _).own own7 (fun i hi e => own_neR HOWN.out HK2.out.1 (by decide) (by rw [hi, e]))⟩
        · rw [if_neg hk0] at HE
          have hk0' : (kc == 0) = false := by rw [beq_eq_false_iff_ne]; exact hk0
          have HKC := Lib.hid hk0
          clear hk0
          go_wp2_with (first
            | (guard_target = wpList _ _ _ (Oper.mk _ (.load 29 _) _ _ _ _ :: _) _ _; refine wpList_load_row rfl 29 _ rfl w.heap.size rfl 29 sv (0, 0) _ k1 Tryd.underlying29 rfl (by rw [HJZ.out.2.2.2]; kernel_rfl) ?_; clear k1)
            | (go_at_call 37; refine (HCT'.out wr).mono ?_; rintro e W5 ⟨rfl, hb5⟩; have HB5 := Lib.hid hb5; clear hb5)
            | (guard_target = wpList _ _ _ (Oper.mk _ (.store 29 _ _) _ _ _ _ :: _) _ _; refine wpList_store_row rfl 29 _ _ rfl W5.heap.size sv' rfl rfl 29 _ (heap_alloc_new W5 _) (by rw [HSV'.out.2.1]; kernel_rfl) (by rw [HSV'.out.2.1]; rfl) HSV'.out.2.2 ?_; rw [World.setRow_alloc_new]; have hb6 : Below wr.heap.size wr (W5.alloc (.cells sv' 29)) := HB5.out.alloc HB5.out.size _; have k16 := HK1.out.below hb6 HK1.out.lt; have k26 := HK2.out.1.below hb6 HK2.out.1.lt; have HB6 := Lib.hid (HBW.out.trans (hb6.mono HBW.out.size)); clear hb6)
            | (guard_target = wpList _ _ _ (Oper.mk _ (.load 29 _) _ _ _ _ :: _) _ _; refine wpList_load_row rfl 29 _ rfl w.heap.size rfl 29 sv (0, 0) _ k16 Tryd.underlying29 rfl (by rw [HJZ.out.2.2.2]; kernel_rfl) ?_)
            | (guard_target = wpList _ _ _ (Oper.mk _ (.build 39 _) _ _ _ _ :: _) _ _; refine wpList_build rfl 39 _ rfl (by simp only [List.map_toArray, List.map_cons, List.map_nil]; exact HBS.out) ?_; simp only [List.map_toArray, List.map_cons, List.map_nil])
            | (guard_target = wpList _ _ _ (Oper.mk _ (.store 39 _ _) _ _ _ _ :: _) _ _; refine wpList_store_row rfl 39 _ _ rfl (w.heap.size + 1) jz rfl (show _ = Value.agg jz by rw [← HBU.out]; rfl) 39 _ k26 (by rw [HJZ.out.2.1]; kernel_rfl) (by rw [HJZ.out.2.1, HK2.out.2]) HJZ.out.2.2.1 ?_))
          refine bodyPost_ret (results_cell_tmp (p := 2) (q := 3) rfl _ _ (w.heap.size + 1) _ _ _ rfl (k26.setRow _) Tryd.underlying39 rfl (by rw [HJZ.out.2.1]; kernel_rfl)) rfl ⟨below_setRow HB6.out (by omega) _, .agg jz, ?_⟩
          rw [HE.out]
          exact ⟨jz, rfl, HKC.out, HJZ.out.2.1, HJZ.out.2.2.1, HJZ.out.1.symm⟩
      · have hpn' : p = n := by omega
        have HE : Hid (openJ sd = (some ⟨recs, last, false⟩, sd, 0)) := Lib.hid (by rw [HOJ.out, if_pos (by rw [HBL.out]; omega)])
        have hpni : ¬ (p : Int) < (n : Int) := by omega
        clear HOJ hpn hpn'
        have k46 := HK4.out
        have k26 := HK2.out.1
        go_wp2_with (first
          | (guard_target = wpList _ _ _ (Oper.mk _ (.load 39 _) _ _ _ _ :: _) _ _; refine wpList_load_row rfl 39 _ rfl g4 rfl 39 _ (0, 0) _ k46 Tryd.underlying39 rfl (by rw [arr_size]; kernel_rfl) ?_)
          | (guard_target = wpList _ _ _ (Oper.mk _ (.store 39 _ _) _ _ _ _ :: _) _ _; refine wpList_store_row rfl 39 _ _ rfl (w.heap.size + 1) (arr 38 (rjF sd v last false)) rfl rfl 39 _ k26 (by rw [arr_size]; kernel_rfl) (by rw [arr_size, HK2.out.2]) (rj_all HV1.out) ?_))
        refine bodyPost_ret (results_cell_tmp (p := 2) (q := 3) rfl _ _ (w.heap.size + 1) _ _ _ rfl (k26.setRow _) Tryd.underlying39 rfl (by rw [arr_size]; kernel_rfl)) rfl ⟨below_setRow HBW.out (by omega) _, v, ?_⟩
        rw [HE.out]
        exact ⟨rfl, rfl, (turn_setRowR wr (w.heap.size + 1) _).own HOWN.out (fun i hi e => own_neR HOWN.out HK2.out.1 (by decide) (by rw [hi, e]))⟩
end Go.Proofs.YtgpbpdjamimbfaaDoor
