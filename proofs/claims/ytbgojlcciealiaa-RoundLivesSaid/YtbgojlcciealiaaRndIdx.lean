/-
  One's way to agreement: is a thing known; another fresh thing. No condition.
-/
import Derived.Test.YtbgojlcciealiaaRndFn
namespace Go.Proofs.Ytbgojlcciealiaa
open Go Go.RowKit Go.Maps

theorem yields_eqI {ops : Array Oper} {S : World → Prop} {op : Oper} {a : Act} (hw : Region.wanted op (yielded ops a.tmps) = true) (x y : Operand) (ho : op.op = .binOp .eql 24 x y 24)
    (l k : List UInt8) (hx : a.eval x = idv l) (hy : a.eval y = idv k) (hl : IdOk l) (hk : IdOk k) : YieldsIf Try.prog ops S op (.bool (l == k)) a :=
  .inl ⟨hw, fun w _ => by
    have h1 := guard_idv x y l k w
    have h2 := eql_idv hl hk w
    unfold execOp
    simp only [ho, hx, hy, Sem.run_bind, h1, h2, Sem.run_pure, Result.andThen_ok]⟩
def hasI (l : List (List UInt8)) (id : List UInt8) : Bool := l.any (fun x => x == id)
theorem hasI_take {l : List (List UInt8)} {id x : List UInt8} {j : Nat} (hx : l[j]? = some x) : hasI (l.take (j + 1)) id = (hasI (l.take j) id || x == id) := by
  unfold hasI
  rw [List.take_add_one, hx]
  simp
theorem hasI_here {l : List (List UInt8)} {id x : List UInt8} {j : Nat} (hx : l[j]? = some x) (h : (x == id) = true) : hasI l id = true := by
  unfold hasI
  exact List.any_eq_true.2 ⟨x, List.mem_of_getElem? hx, h⟩
theorem RdI.here {W : World} {B : Nat} {v : Value} {l : List (List UInt8)} (h : RdI W B v l) {k : Nat} {x : List UInt8} (hk : l[k]? = some x) : ∃ ad c, v = .slice (some ad) l.length c ∧ IdOk x ∧ ad.block < B ∧ ∀ W', Below B W W' → (Instr.loadAt 24 (.pointer (some (ad.add (k * 32))))).run Try.prog W' = .ok (idv x) W' := by
  have hlt := (List.getElem?_eq_some_iff.1 hk).1
  obtain ⟨h0, A, c, rfl, h2, h3, h4⟩ := h
  obtain ⟨ad, rfl, q2, q3⟩ := h4 (by omega)
  have hv : IdOk x := h0 _ (List.mem_of_getElem? hk)
  refine ⟨ad, c, rfl, hv, q2, fun W' hb => run_load_id W' _ _ hv fun i hi => ?_⟩
  rw [add_add', Nat.mul_comm k 32]
  have h5 := q3 k x hk i hi
  have e : (idL x)[i]? = some (Extern.Stop.cell (x.getD i 0)) := by
    unfold idL
    unfold IdOk at hv
    rw [List.getElem?_map, List.getElem?_eq_getElem (by omega), List.getD_eq_getElem?_getD, List.getElem?_eq_getElem (by omega)]
    rfl
  rw [e] at h5
  exact (hb.cell (p := ad.add (32 * k + i)) (by rw [block_add]; exact q2)).trans h5
set_option maxRecDepth 100000 in
set_option maxHeartbeats 8000000 in
theorem index_any (v : Value) (l : List (List UInt8)) (id : List UInt8) (hid : IdOk id) (w : World) (hr : RdI w w.heap.size v l) : Calls Try.prog 80 #[v, .agg (idC id)] w fun e w' => (∃ i : Int, e = .returned (.int .i64 i) ∧ decide (0 ≤ i) = hasI l id) ∧ Below w.heap.size w w' := by
  have HR := Lib.hid hr
  obtain ⟨-, A, c, rfl, -, hn1, -⟩ := hr
  obtain ⟨n, hn⟩ : ∃ n, l.length = n := ⟨_, rfl⟩
  rw [hn] at HR hn1 ⊢
  have HN := Lib.hid hn
  have HID := Lib.hid hid
  obtain ⟨W1, hW⟩ : ∃ W1, w.alloc (.cells (idC id) 24) = W1 := ⟨_, rfl⟩
  have hb1 : Below w.heap.size w W1 := by rw [← hW]; exact (Below.refl _ _).alloc (Nat.le_refl _) _
  have k1 : Blk W1 w.heap.size 24 (idC id) := by rw [← hW]; exact Blk.new _ _ _
  have HB1 := Lib.hid hb1
  have HLD : Hid (∀ W', Below W1.heap.size W1 W' → (Instr.loadAt 24 (.pointer (some ⟨w.heap.size, 0, none⟩))).run Try.prog W' = .ok (idv id) W') := Lib.hid fun W' hb => run_loadVar_idv hid (k1.below hb k1.lt)
  clear hn hid hb1 k1
  go_enter Try.func80, Try.ntmps80
  go_upto_region 2 with fail
  clear hW
  go_loopw [5, 8] (fun _ i wr => ∃ j : Nat, j ≤ n ∧ i = .int .i64 (j : Int) ∧ hasI (l.take j) id = false ∧ Below W1.heap.size W1 wr) (fun _ i _ => n - (intOf i).toNat)
  case atStart => exact ⟨0, Nat.zero_le _, rfl, rfl, Below.refl _ _⟩
  case round =>
    obtain ⟨j, hj, rfl, hno, hb⟩ := hrel
    by_cases hlt : j < n
    · have hkn : (j : Int) < (n : Int) := by omega
      have hk0 : (0 : Int) ≤ (j : Int) := by omega
      obtain ⟨x, hx⟩ : ∃ x, l[j]? = some x := ⟨_, List.getElem?_eq_getElem (by rw [HN.out]; exact hlt)⟩
      obtain ⟨ad, c', he, hok, hab, hf⟩ := HR.out.here hx
      rw [HN.out] at he
      obtain ⟨rfl, -, rfl⟩ := Value.slice.inj he
      have HLX := Lib.hid hf
      have HOK := Lib.hid hok
      have HX := Lib.hid hb
      have HXX := Lib.hid hx
      have HNO := Lib.hid hno
      clear hf hok hb hx he hab hno
      cases h1 : id == x with
      | false =>
        have HT : Hid (hasI (l.take (j + 1)) id = false) := Lib.hid (by rw [hasI_take HXX.out, HNO.out, BEq.comm, h1]; rfl)
        go_upto_region 4 with fail
        refine wp_region_held_drew (S := fun W' => Below W1.heap.size W1 W') (by kernel_rfl) ?_ (fun hHeld => ?_)
        · exact HX.out.drew
        refine tkH (v := (idv id)) 0 ⟨some 11, _, _, _, _, _⟩ rfl (yields_run (by rfl) 24 _ rfl (.pointer (some ⟨w.heap.size, 0, none⟩)) _ rfl (fun W' hS => HLD.out W' hS)) ?_
        try simp only [Act.put, nz1, nz2, nz3]
        refine tkH (v := ?_) 1 ⟨some 12, _, _, _, _, _⟩ rfl (Or.inl ⟨by rfl, ?_⟩) ?_
        rotate_left
        · intro w hSw; (try dsimp only at hSw); go_simp; try (with_reducible rfl)
        try simp only [Act.put, nz1, nz2, nz3]
        refine tkH (v := ?_) 2 ⟨some 13, _, _, _, _, _⟩ rfl (Or.inl ⟨by rfl, ?_⟩) ?_
        rotate_left
        · intro w hSw; (try dsimp only at hSw); go_simp; try (with_reducible rfl)
        try simp only [Act.put, nz1, nz2, nz3]
        refine tkH (v := ?_) 3 ⟨some 14, _, _, _, _, _⟩ rfl (Or.inl ⟨by rfl, ?_⟩) ?_
        rotate_left
        · intro w hSw; (try dsimp only at hSw); go_simp; try (with_reducible rfl)
        try simp only [Act.put, nz1, nz2, nz3]
        refine tkH (v := (idv x)) 4 ⟨some 15, _, _, _, _, _⟩ rfl (yields_run (by rfl) 24 _ rfl (.pointer (some (ad.add (j * 32)))) _ rfl (fun W' hS => HLX.out W' (HB1.out.trans (hS.mono HB1.out.size)))) ?_
        try simp only [Act.put, nz1, nz2, nz3]
        refine tkH (v := (.bool (id == x))) 5 ⟨some 16, _, _, _, _, _⟩ rfl (yields_eqI (by rfl) _ _ rfl id x rfl rfl HID.out HOK.out) ?_
        try simp only [Act.put, nz1, nz2, nz3]
        refine wpAnyH_done (by kernel_rfl) ?_ _
        rw [h1]
        go_wp2_with fail
        go_roundw
        case rel => exact ⟨j + 1, by omega, by go_num, HT.out, HX.out.drew⟩
        case measure => simp [intOf]; omega
      | true =>
        have HT : Hid (hasI l id = true) := Lib.hid (hasI_here HXX.out (by rw [BEq.comm, h1]))
        go_upto_region 4 with fail
        refine wp_region_held_drew (S := fun W' => Below W1.heap.size W1 W') (by kernel_rfl) ?_ (fun hHeld => ?_)
        · exact HX.out.drew
        refine tkH (v := (idv id)) 0 ⟨some 11, _, _, _, _, _⟩ rfl (yields_run (by rfl) 24 _ rfl (.pointer (some ⟨w.heap.size, 0, none⟩)) _ rfl (fun W' hS => HLD.out W' hS)) ?_
        try simp only [Act.put, nz1, nz2, nz3]
        refine tkH (v := ?_) 1 ⟨some 12, _, _, _, _, _⟩ rfl (Or.inl ⟨by rfl, ?_⟩) ?_
        rotate_left
        · intro w hSw; (try dsimp only at hSw); go_simp; try (with_reducible rfl)
        try simp only [Act.put, nz1, nz2, nz3]
        refine tkH (v := ?_) 2 ⟨some 13, _, _, _, _, _⟩ rfl (Or.inl ⟨by rfl, ?_⟩) ?_
        rotate_left
        · intro w hSw; (try dsimp only at hSw); go_simp; try (with_reducible rfl)
        try simp only [Act.put, nz1, nz2, nz3]
        refine tkH (v := ?_) 3 ⟨some 14, _, _, _, _, _⟩ rfl (Or.inl ⟨by rfl, ?_⟩) ?_
        rotate_left
        · intro w hSw; (try dsimp only at hSw); go_simp; try (with_reducible rfl)
        try simp only [Act.put, nz1, nz2, nz3]
        refine tkH (v := (idv x)) 4 ⟨some 15, _, _, _, _, _⟩ rfl (yields_run (by rfl) 24 _ rfl (.pointer (some (ad.add (j * 32)))) _ rfl (fun W' hS => HLX.out W' (HB1.out.trans (hS.mono HB1.out.size)))) ?_
        try simp only [Act.put, nz1, nz2, nz3]
        refine tkH (v := (.bool (id == x))) 5 ⟨some 16, _, _, _, _, _⟩ rfl (yields_eqI (by rfl) _ _ rfl id x rfl rfl HID.out HOK.out) ?_
        try simp only [Act.put, nz1, nz2, nz3]
        refine wpAnyH_done (by kernel_rfl) ?_ _
        rw [h1]
        go_wp2_with fail
        go_ret
        exact ⟨⟨_, rfl, by rw [HT.out]; exact decide_eq_true hk0⟩, HB1.out.trans (HX.out.drew.mono HB1.out.size)⟩
    · have hkn : ¬ (j : Int) < (n : Int) := by omega
      have HT : Hid (hasI l id = false) := Lib.hid (by rw [← List.take_of_length_le (i := j) (l := l) (by rw [HN.out]; omega)]; exact hno)
      have HX := Lib.hid hb
      clear hno hb
      go_wp2_with fail
      go_ret
      exact ⟨⟨_, rfl, by rw [HT.out]; rfl⟩, HB1.out.trans (HX.out.mono HB1.out.size)⟩
set_option maxRecDepth 100000 in
set_option maxHeartbeats 8000000 in
theorem contains_any (v : Value) (l : List (List UInt8)) (id : List UInt8) (hid : IdOk id) (W : World) (hr : RdI W W.heap.size v l) : Calls Try.prog 75 #[v, .agg (idC id)] W fun e w' => e = .returned (.bool (hasI l id)) ∧ Below W.heap.size W w' := by
  have HID := Lib.hid hid
  obtain ⟨W1, hW⟩ : ∃ W1, W.alloc (.cells (idC id) 24) = W1 := ⟨_, rfl⟩
  have hb1 : Below W.heap.size W W1 := by rw [← hW]; exact (Below.refl _ _).alloc (Nat.le_refl _) _
  have k1 : Blk W1 W.heap.size 24 (idC id) := by rw [← hW]; exact Blk.new _ _ _
  have HB1 := Lib.hid hb1
  have HK1 := Lib.hid k1
  have HLD : Hid (∀ W', Below W1.heap.size W1 W' → (Instr.loadAt 24 (.pointer (some ⟨W.heap.size, 0, none⟩))).run Try.prog W' = .ok (idv id) W') := Lib.hid fun W' hb => run_loadVar_idv hid (k1.below hb k1.lt)
  have HI : Hid (Calls Try.prog 80 #[v, .agg (idC id)] W1 fun e w' => (∃ i : Int, e = .returned (.int .i64 i) ∧ decide (0 ≤ i) = hasI l id) ∧ Below W1.heap.size W1 w') := Lib.hid (index_any v l id hid W1 ((hr.old hb1).mono hb1.size))
  clear hid hb1 k1 hr
  go_enter Try.func75, Try.ntmps75
  go_upto_region 1 with fail
  clear hW
  go_wp2_with (first
    | (guard_target = wpList _ _ _ (Oper.mk _ (.load 24 _) _ _ _ _ :: _) _ _; refine wpList_load_idv rfl _ rfl W.heap.size id rfl HID.out 24 HK1.out ?_)
    | (go_at_call 80; refine HI.out.mono ?_; rintro e W2 ⟨⟨i, rfl, hi⟩, hb2⟩; have HB2 := Lib.hid hb2; clear hb2))
  go_ret
  exact ⟨rfl, HB1.out.trans (HB2.out.mono HB1.out.size)⟩
set_option maxRecDepth 100000 in
set_option maxHeartbeats 8000000 in
theorem knows_any {W : World} {B C M n : Nat} {kv : Value} {s : RdS} (h : RoundAt W B C M n kv s) (id : List UInt8) (hid : IdOk id) : Calls Try.prog 69 #[.pointer (some ⟨B, 0, none⟩), .agg (idC id)] W fun e w' => e = .returned (.bool (hasI s.known id)) ∧ Below W.heap.size W w' := by
  obtain ⟨W1, hW⟩ : ∃ W1, W.alloc (.cells (idC id) 24) = W1 := ⟨_, rfl⟩
  have hb1 : Below W.heap.size W W1 := by rw [← hW]; exact (Below.refl _ _).alloc (Nat.le_refl _) _
  have k1 : Blk W1 W.heap.size 24 (idC id) := by rw [← hW]; exact Blk.new _ _ _
  have HB1 := Lib.hid hb1
  have HK1 := Lib.hid k1
  have HLD : Hid (∀ W', Below W1.heap.size W1 W' → (Instr.loadAt 24 (.pointer (some ⟨W.heap.size, 0, none⟩))).run Try.prog W' = .ok (idv id) W') := Lib.hid fun W' hb => run_loadVar_idv hid (k1.below hb k1.lt)
  have HC : Hid (∀ W', Below W1.heap.size W1 W' → W'.cell? ⟨B, 103, none⟩ = some kv) := Lib.hid fun W' hb => (h.below (hb1.trans (hb.mono hb1.size))).cell (i := 103) (by omega)
  have HCO : Hid (∀ W', Below W1.heap.size W1 W' → Calls Try.prog 75 #[kv, .agg (idC id)] W' fun e w' => e = .returned (.bool (hasI s.known id)) ∧ Below W'.heap.size W' w') := Lib.hid fun W' hb => contains_any kv s.known id hid W' (h.below (hb1.trans (hb.mono hb1.size))).known
  have hbX : Below W1.heap.size W1 W1.drew := (Below.refl _ _).drew
  clear hid hb1 k1 h
  go_enter Try.func69, Try.ntmps69
  go_upto_region 1 with fail
  clear hW
  refine wp_region_held_drew (S := fun W' => Below W1.heap.size W1 W') (by kernel_rfl) ?_ (fun hHeld => ?_)
  · exact hbX
  refine tkH (v := ?_) 0 ⟨some 5, _, _, _, _, _⟩ rfl (Or.inl ⟨by rfl, ?_⟩) ?_
  rotate_left
  · intro w hSw; (try dsimp only at hSw); go_simp; try (with_reducible rfl)
  try simp only [Act.put, nz1, nz2, nz3]
  refine tkH (v := ?_) 1 ⟨some 6, _, _, _, _, _⟩ rfl (Or.inl ⟨by rfl, ?_⟩) ?_
  rotate_left
  · intro w hSw; (try dsimp only at hSw); go_simp; try (with_reducible rfl)
  try simp only [Act.put, nz1, nz2, nz3]
  refine tkH (v := ?_) 2 ⟨some 7, _, _, _, _, _⟩ rfl (Or.inl ⟨by rfl, ?_⟩) ?_
  rotate_left
  · intro w hSw; (try dsimp only at hSw); go_simp; try (with_reducible rfl)
  try simp only [Act.put, nz1, nz2, nz3]
  refine tkH (v := kv) 3 ⟨some 8, _, _, _, _, _⟩ rfl (yields_one (by rfl) 49 _ rfl ⟨B, 103, none⟩ rfl _ _ (fun W' hS => HC.out W' hS) Try.underlying49 rfl) ?_
  try simp only [Act.put, nz1, nz2, nz3]
  refine tkH (v := (idv id)) 4 ⟨some 9, _, _, _, _, _⟩ rfl (yields_run (by rfl) 24 _ rfl (.pointer (some ⟨W.heap.size, 0, none⟩)) _ rfl (fun W' hS => HLD.out W' hS)) ?_
  try simp only [Act.put, nz1, nz2, nz3]
  refine wpAnyH_ready (rs := [5]) (by kernel_rfl) (by simp) ?_
  refine (AllReadyH.cons (o := ⟨some 10, _, _, _, _, _⟩) rfl (fun K hK => ?_) AllReadyH.nil)
  (try rw [if_pos (by rfl)])
  go_simp
  refine (HCO.out _ hbX).mono ?_
  rintro e Wn ⟨rfl, hbn⟩
  replace hbX := hbX.trans (hbn.mono hbX.size)
  clear hbn
  try dsimp only
  refine hK.out _ _ (hbX) (fun hHeld => ?_)
  clear hK K
  try simp only [Act.put, nz1, nz2, nz3]
  refine tkH (v := ?_) 6 ⟨some 4, _, _, _, _, _⟩ rfl (Or.inl ⟨by rfl, ?_⟩) ?_
  rotate_left
  · intro w hSw; (try dsimp only at hSw); go_simp; try (with_reducible rfl)
  try simp only [Act.put, nz1, nz2, nz3]
  refine wpAnyH_done (by kernel_rfl) ?_ _
  go_wp2_with fail
  go_ret
  exact ⟨rfl, HB1.out.trans (hbX.mono HB1.out.size)⟩
end Go.Proofs.Ytbgojlcciealiaa
