/-
  The reference's put, for the ID: for every message that reads, any string that isn't empty, in whatever memory.
-/
import Derived.Test.YtngceddlieimmaaPackRefPut7
namespace Go.Proofs.Ytngceddlieimmaa
open Go Go.RowKit PackMath

section
variable {P : Program} {ops : Array Oper} {rest : List Oper} {o : Oper} {a : Act} {w : World} {Q : Exit → Act → World → Prop}
theorem wpList_buildG (hw : Region.wanted o (yielded ops a.tmps) = true) (t : TypeId) (parts : Array (Nat × Operand)) (ho : o.op = .build t parts)
    (hf : (P.built t (parts.map fun (i, x) => (i, a.eval x)).toList).isSome = true)
    (h : wpList P ops Q rest (a.put o.dst (.agg ((P.built t (parts.map fun (i, x) => (i, a.eval x)).toList).getD #[]))) w) : wpList P ops Q (o :: rest) a w :=
  wpList_step fun K hK => by
    rw [if_pos hw]
    exact wp_build t parts ho hf (hK _ _ h)
/-- An array stored into a part of a row. -/
theorem wpList_store_part (hgd : o.guard = none) (ty : TypeId) (x y : Operand) (ho : o.op = .store ty x y)
    (g off m N : Nat) (f c : Nat → Value) (hx : a.eval x = .pointer (some ⟨g, off, none⟩)) (hy : a.eval y = .agg (arr m c))
    (t : TypeId) (hg : Blk w g t (arr N f)) (hi : (P.info? ty).map (·.size) = some m) (hfit : off + m ≤ N) (h1 : ∀ j, j < m → (c j).oneCell' = true)
    (h : ∀ w', w' = w.setRow g (arr N fun i => if off ≤ i ∧ i < off + m then c (i - off) else f i) → wpList P ops Q rest (a.put o.dst undef) w') : wpList P ops Q (o :: rest) a w := by
  refine wpList_plain hgd fun K hK => ?_
  unfold Oper.wp
  have hl : (arr m c).toList = (List.range m).map c := by rw [arr_list]
  have hst := run_storeCells_at (P := P) g off t ((List.range m).map c) 0 (arr N f) w hg (by rw [List.length_map, List.length_range, arr_size]; omega) (fun v hv => by
    simp only [List.mem_map, List.mem_range] at hv
    obtain ⟨j, hj, rfl⟩ := hv
    exact h1 j hj)
  rw [List.append_assoc, Nat.add_zero, List.length_map, List.length_range, splice_arr N off m f c hfit] at hst
  cases hq : P.info? ty with
  | none => simp [hq] at hi
  | some i =>
    have hs : m = i.size := by simp [hq] at hi; omega
    have hsz : (arr m c).size = i.size := by rw [arr_size, hs]
    have := hK _ _ (h _ rfl)
    simp [execOp, ho, hx, hy, Instr.storeAt, Instr.sureAddr, Sem.run_bind, storeVar, sizeOf, typeInfo, hq, Value.cells, hsz, hl, hst, Result.andThen, Oper.upon]
    exact this
end
theorem ref_set6 (r : Raw) (d i l : Value) (G : Nat → UInt8) : (arr 41 fun j => if 6 ≤ j ∧ j < 6 + 32 then (fun k => bv (G k)) (j - 6) else msgF r d i l j) = msgA { r with id := G } d i l := by
  refine arr_congr fun j hj => ?_
  match j with
  | 0 => rfl
  | 1 => rfl
  | 2 => rfl
  | 3 => rfl
  | 4 => rfl
  | 5 => rfl
  | m + 6 =>
    show (if 6 ≤ m + 6 ∧ m + 6 < 6 + 32 then bv (G (m + 6 - 6)) else if m + 6 < 38 then bv (r.id (m + 6 - 6)) else if m + 6 = 38 then d else if m + 6 = 39 then i else l) = if m + 6 < 38 then bv (G (m + 6 - 6)) else if m + 6 = 38 then d else if m + 6 = 39 then i else l
    by_cases h2 : m + 6 < 38
    · rw [if_pos (by omega), if_pos h2]
    · rw [if_neg (by omega), if_neg h2, if_neg h2]
set_option maxRecDepth 100000 in
set_option maxHeartbeats 8000000 in
theorem refPut6 (r : Raw) (d i l : Value) (bs : List UInt8) (hne : bs ≠ []) (hm : bs.length ≤ 1099511627776) (w : World) (hr : RdR w (fun b => b < w.heap.size) r d i l) :
    Calls Try.prog 25 #[.agg (msgA r d i l), .int .i64 6, .string ⟨bs.toArray⟩] w fun e w' => ((bs.length ≠ 32 ∨ bs = zid) → ∃ M, e = .returned (.tuple #[.agg M, .int .i64 23]) ∧ M.size = 41 ∧ M.all (·.oneCell') = true) ∧ (¬ (bs.length ≠ 32 ∨ bs = zid) → e = .returned (.tuple #[.agg (msgA { r with id := fun j => bs.getD j 0 } d i l), .int .i64 0])) ∧ Below w.heap.size w w' := by
  have hem := str_some hne
  have hsz := ba_len bs
  have hz := built_zero
  have hid := fun h32 w => refId_any bs 0 h32 (by omega) w
  have hset := ref_set6 r d i l
  have hfall : (arr 41 (msgF r d i l)).all (·.oneCell') = true := msg_all hr
  have hgall : ∀ G, (msgA { r with id := G } d i l).all (·.oneCell') = true := fun G => msg_all (r := { r with id := G }) ⟨hr.data, hr.ids, hr.list⟩
  have hgs : ∀ G, (msgA { r with id := G } d i l).size = 41 := fun G => arr_size _ _
  obtain ⟨S, hS⟩ : ∃ S : ByteArray, ⟨bs.toArray⟩ = S := ⟨_, rfl⟩
  obtain ⟨Z, hZ⟩ : ∃ Z, msgA (zeroRaw 0) nilS nilS nilS = Z := ⟨_, rfl⟩
  have hzs : Z.size = 41 := by rw [← hZ]; exact arr_size _ _
  have HZ := Lib.hid hZ
  have HZS := Lib.hid hzs
  obtain ⟨f, hf⟩ : ∃ f, msgF r d i l = f := ⟨_, rfl⟩
  rw [show msgA r d i l = arr 41 (msgF r d i l) from rfl]
  rw [hf] at hset hfall ⊢
  rw [hS] at hem hsz hid ⊢
  have HFA := Lib.hid hfall
  have HSET := Lib.hid hset
  have HGA := Lib.hid (And.intro hgall hgs)
  clear hset hfall hgall hgs hS hZ hzs hr hne hf hm
  by_cases h32 : bs.length = 32
  · have hid2 := hid (by omega)
    rw [h32] at hsz
    have HX1 := Lib.hid hid2
    have HX2 := Lib.hid hid2
    have hGz := eql_id (fun j => bs.getD (0 + j) 0) (fun _ => 0)
    rw [id32_zero, show id32 (fun j => bs.getD (0 + j) 0) = bs from by simpa using id32_of bs h32] at hGz
    obtain ⟨G, hG⟩ : ∃ G : Nat → UInt8, (fun j => bs.getD (0 + j) 0) = G := ⟨_, rfl⟩
    have hGi : ∀ j, bs.getD (0 + j) 0 = G j := fun j => by rw [← hG]
    have hGa : (arr 32 fun j => bv (bs.getD (0 + j) 0)) = arr 32 fun j => bv (G j) := arr_congr fun j _ => by rw [hGi]
    rw [hGa] at HX1 HX2
    rw [hGa] at hGz
    have hG0 : (fun j => bs.getD j 0) = G := by rw [← hG]; funext j; rw [Nat.zero_add]
    by_cases hzid : bs = zid
    · rw [show (bs == zid) = true from by simpa using hzid] at hGz
      have HEQ := Lib.hid hGz
      have HN : Hid (bs.length ≠ 32 ∨ bs = zid) := Lib.hid (.inr hzid)
      clear hid hid2 hGz hG hGi hGa hG0 hzid h32
      go_enter Try.func25, Try.ntmps25
      go_wp2_with (first
        | (go_at_call 36; refine (HX1.out _).mono ?_; rintro e w1 ⟨rfl, hb1⟩; have hx1 : Blk w1 w.heap.size 28 (arr 41 f) := ((Blk.new w 28 (arr 41 f)).alloc _).below hb1 (by simp; omega); have hR1 : Blk w1 (w.heap.size + 1) 28 Z := (Blk.newAt _ _ (by simp) (by rw [← HZ.out]; kernel_rfl)).below hb1 (by simp); have hw1 : Below w.heap.size w w1 := (((Below.refl _ w).alloc (Nat.le_refl _) _).alloc (by simp) _).trans (hb1.mono (by simp; omega)); have HW1 := Lib.hid hw1; clear hb1 hw1 HX1)
        | (guard_target = wpList _ _ _ (Oper.mk _ (.build _ _) _ _ _ _ :: _) _ _; refine wpList_buildG (by rfl) 23 #[] rfl (by kernel_rfl) ?_; simp only [List.map_toArray, List.map_nil]; rw [hz])
        | (guard_target = wpList _ _ _ (Oper.mk _ (.binOp .eql 23 _ _ _) _ _ _ _ :: _) _ _; refine wpList_binG (by rfl) .eql 23 _ _ _ rfl (.agg (arr 32 fun j => bv (G j))) (.agg (arr 32 fun _ => bv 0)) rfl rfl (.bool true) (run_eqGuard_agg _ _ _ _ _ _ _ (by kernel_rfl)) (HEQ.out _) ?_; clear HEQ)
        | (guard_target = wpList _ _ _ (Oper.mk _ (.load 28 _) _ _ _ _ :: _) _ _; refine wpList_load_row rfl 28 _ rfl w.heap.size rfl 28 (arr 41 f) (0, 0) _ (hx1) Try.underlying28 rfl (by rw [arr_size]; kernel_rfl) ?_)
        | (guard_target = wpList _ _ _ (Oper.mk _ (.store 28 _ _) _ _ _ _ :: _) _ _; refine wpList_store_arrW rfl 28 _ _ rfl (w.heap.size + 1) (arr 41 f) rfl rfl 28 _ (hR1) (by rw [arr_size]; kernel_rfl) (by rw [arr_size, HZS.out]) (HFA.out) ?_; intro W9 hS9 hz9 hb9 ho9))
      refine bodyPost_ret (results_cell_tmp (p := 6) (q := 7) rfl _ _ (w.heap.size + 1) 28 _ _ rfl hS9 Try.underlying28 rfl (by rw [arr_size]; kernel_rfl)) rfl ?_
      exact ⟨fun _ => ⟨_, rfl, arr_size _ _, HFA.out⟩, fun h => absurd HN.out h, HW1.out.trans (hb9.mono (by omega))⟩
    · rw [show (bs == zid) = false from by simpa using hzid] at hGz
      have HEQ := Lib.hid hGz
      have HN : Hid (¬ (bs.length ≠ 32 ∨ bs = zid)) := Lib.hid fun h => h.elim (fun h => h h32) hzid
      have HG0 := Lib.hid hG0
      have hset2 := HSET.out G
      have hga := HGA.out.1 G
      have hgs := HGA.out.2 G
      obtain ⟨M1, hM1⟩ : ∃ M1, msgA { r with id := G } d i l = M1 := ⟨_, rfl⟩
      rw [hM1] at hset2 hga hgs
      have HSET2 := Lib.hid hset2
      have HGA2 := Lib.hid hga
      have HGS2 := Lib.hid hgs
      have HM1 := Lib.hid hM1
      clear hid hid2 hGz hG hGi hGa hG0 hzid h32 hset2 hga hgs hM1
      go_enter Try.func25, Try.ntmps25
      go_wp2_with (first
        | (go_at_call 36; refine (HX1.out _).mono ?_; rintro e w1 ⟨rfl, hb1⟩; have hx1 : Blk w1 w.heap.size 28 (arr 41 f) := ((Blk.new w 28 (arr 41 f)).alloc _).below hb1 (by simp; omega); have hR1 : Blk w1 (w.heap.size + 1) 28 Z := (Blk.newAt _ _ (by simp) (by rw [← HZ.out]; kernel_rfl)).below hb1 (by simp); have hw1 : Below w.heap.size w w1 := (((Below.refl _ w).alloc (Nat.le_refl _) _).alloc (by simp) _).trans (hb1.mono (by simp; omega)); have HW1 := Lib.hid hw1; clear hb1 hw1 HX1)
        | (guard_target = wpList _ _ _ (Oper.mk _ (.build _ _) _ _ _ _ :: _) _ _; refine wpList_buildG (by rfl) 23 #[] rfl (by kernel_rfl) ?_; simp only [List.map_toArray, List.map_nil]; rw [hz])
        | (guard_target = wpList _ _ _ (Oper.mk _ (.binOp .eql 23 _ _ _) _ _ _ _ :: _) _ _; refine wpList_binG (by rfl) .eql 23 _ _ _ rfl (.agg (arr 32 fun j => bv (G j))) (.agg (arr 32 fun _ => bv 0)) rfl rfl (.bool false) (run_eqGuard_agg _ _ _ _ _ _ _ (by kernel_rfl)) (HEQ.out _) ?_; clear HEQ)
        | (go_at_call 36; refine (HX2.out _).mono ?_; rintro e w2 ⟨rfl, hb2⟩; have hx2 := hx1.below hb2 hx1.lt; have hR2 := hR1.below hb2 hR1.lt; have HW2 := Lib.hid (HW1.out.trans (hb2.mono HW1.out.size)); clear hb2 hx1 hR1 HX2)
        | (guard_target = wpList _ _ _ (Oper.mk _ (.store 23 _ _) _ _ _ _ :: _) _ _; refine wpList_store_part rfl 23 _ _ rfl w.heap.size 6 32 41 f (fun k => bv (G k)) rfl rfl 28 hx2 (by kernel_rfl) (by omega) (fun _ _ => rfl) ?_; intro w3 hw3; rw [HSET2.out] at hw3; have hx3 : Blk w3 w.heap.size 28 M1 := hw3 ▸ hx2.setRow _; have hR3 : Blk w3 (w.heap.size + 1) 28 Z := hw3 ▸ hR2.setRow_far (by omega) _; have HW3 : Hid (Below w.heap.size w w3) := Lib.hid (hw3 ▸ below_setRow HW2.out (Nat.le_refl _) _); clear hx2 hR2 hw3)
        | (guard_target = wpList _ _ _ (Oper.mk _ (.load 28 _) _ _ _ _ :: _) _ _; refine wpList_load_row rfl 28 _ rfl w.heap.size rfl 28 (M1) (0, 0) _ (hx3) Try.underlying28 rfl (by rw [HGS2.out]; kernel_rfl) ?_)
        | (guard_target = wpList _ _ _ (Oper.mk _ (.store 28 _ _) _ _ _ _ :: _) _ _; refine wpList_store_arrW rfl 28 _ _ rfl (w.heap.size + 1) (M1) rfl rfl 28 _ (hR3) (by rw [HGS2.out]; kernel_rfl) (by rw [HGS2.out, HZS.out]) (HGA2.out) ?_; intro W9 hS9 hz9 hb9 ho9))
      refine bodyPost_ret (results_cell_tmp (p := 6) (q := 7) rfl _ _ (w.heap.size + 1) 28 _ _ rfl hS9 Try.underlying28 rfl (by rw [HGS2.out]; kernel_rfl)) rfl ?_
      exact ⟨fun h => absurd h HN.out, fun _ => by rw [HG0.out, HM1.out]; rfl, HW3.out.trans (hb9.mono (by omega))⟩
  · have HN : Hid (¬ bs.length = 32) := Lib.hid h32
    have hn1 : ¬ ((bs.length : Nat) : Int) = 32 := by omega
    obtain ⟨n, hn⟩ : ∃ n, bs.length = n := ⟨_, rfl⟩
    rw [hn] at hsz hn1
    have hn2 : (((n : Nat) : Int) != 32) = true := by simpa using hn1
    have hR0 : Hid (∀ ob, Blk ((w.alloc (.cells (arr 41 f) 28)).alloc ob) w.heap.size 28 (arr 41 f)) := Lib.hid fun ob => (Blk.new _ _ _).alloc _
    clear hid h32 hn
    go_enter Try.func25, Try.ntmps25
    go_wp2_with (first
      | (guard_target = wpList _ _ _ (Oper.mk _ (.load 28 _) _ _ _ _ :: _) _ _; refine wpList_load_row rfl 28 _ rfl w.heap.size rfl 28 (arr 41 f) (0, 0) _ (hR0.out _) Try.underlying28 rfl (by rw [arr_size]; kernel_rfl) ?_)
      | (guard_target = wpList _ _ _ (Oper.mk _ (.store 28 _ _) _ _ _ _ :: _) _ _; refine wpList_store_arrW rfl 28 _ _ rfl (w.heap.size + 1) (arr 41 f) rfl rfl 28 _ (Blk.newAt _ _ (by simp) rfl) (by rw [arr_size]; kernel_rfl) (by rw [arr_size]; rfl) (HFA.out) ?_; intro W9 hS9 hz9 hb9 ho9))
    refine bodyPost_ret (results_cell_tmp (p := 6) (q := 7) rfl _ _ (w.heap.size + 1) 28 _ _ rfl hS9 Try.underlying28 rfl (by rw [arr_size]; kernel_rfl)) rfl ?_
    exact ⟨fun _ => ⟨_, rfl, arr_size _ _, by have := HFA.out; first | exact this | simpa using this⟩, fun h => by first | exact absurd h HN.out | exact absurd (.inl HN.out) h, (((Below.refl _ w).alloc (Nat.le_refl _) _).alloc (by simp) _).trans (hb9.mono (by omega))⟩
end Go.Proofs.Ytngceddlieimmaa
