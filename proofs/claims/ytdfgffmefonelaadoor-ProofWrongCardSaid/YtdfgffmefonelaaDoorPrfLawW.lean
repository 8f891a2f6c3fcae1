/-
  ProofWrong: whatever is bent of what is shown, the answer stays the document's; in whatever memory in which the tables lie. No condition.
-/
import Derived.Test.YtdfgffmefonelaaDoorPrfLawK
namespace Go.Proofs.YtdfgffmefonelaaDoor
open Go Go.RowKit Go.Shelf TreeM

theorem own_below {w w' : World} {B n k : Nat} {e : TypeId} {v : Value} {xs : List Value} (h : w.ownsRow B e k v n xs) (hb : Below w.heap.size w w') : w'.ownsRow B e k v n xs :=
  Turn.own (Turn.of_below hb) h (fun i hi => by have := (h.lt i hi).2; omega)
theorem oper_appendW {P : Program} {o : Oper} {a : Act} {w : World} {K : Act → World → Prop} {Q : Exit → Act → World → Prop} (s x : Operand) (t t' : TypeId) (ho : o.op = .call { callee := .builtin .append, args := #[s, x], argTypes := #[t, t'] })
    (vs vx : Value) (hs : a.eval s = vs) (hx : a.eval x = vx) (v : Value) (w' : World) (hrun : (Builtin.append_ #[t, t'] o.type #[vs, vx]).run P w = .ok v w') (h : K (a.put o.dst v) w') : Oper.wp P o a w K Q := by
  unfold Oper.wp
  simp [execOp, ho, resolve, invoke, builtin, hs, hx, hrun, Result.andThen, Oper.upon]
  exact h
theorem own_apart {ve vE : Value} {gW sz : Nat} (hve : ve.ownBlock = vE.ownBlock ∨ ve.ownBlock = some sz) (hne : ∀ i, vE.ownBlock = some i → i ≠ gW) (hlt : gW < sz) : ∀ i, ve.ownBlock = some i → i ≠ gW := fun i hi => by
  rcases hve with h | h
  · exact hne i (h.symm.trans hi)
  · rw [h] at hi; cases hi; exact Nat.ne_of_gt hlt
theorem way_set0 (a n a' : Int) (x y : D) (v : Value) : (wayA a n x y v).setIfInBounds 0 (.int .i64 a') = wayA a' n x y v := by
  refine arr_of 67 _ _ (by simp [wayA, arr_size]) fun i hi => ?_
  rw [Array.getElem?_setIfInBounds]
  by_cases h : 0 = i
  · subst h; rw [if_pos rfl, if_pos (by simp [wayA, arr_size])]; rfl
  · rw [if_neg h, wayA, arr_get, if_pos hi]
    congr 1
    have h0 : ¬ i = 0 := by omega
    simp only [if_neg h0]
theorem way_set1 (a n n' : Int) (x y : D) (v : Value) : (wayA a n x y v).setIfInBounds 1 (.int .i64 n') = wayA a n' x y v := by
  refine arr_of 67 _ _ (by simp [wayA, arr_size]) fun i hi => ?_
  rw [Array.getElem?_setIfInBounds]
  by_cases h : 1 = i
  · subst h; rw [if_pos rfl, if_pos (by simp [wayA, arr_size])]; rfl
  · rw [if_neg h, wayA, arr_get, if_pos hi]
    congr 1
    have h0 : ¬ i = 1 := by omega
    simp only [if_neg h0]
theorem way_set2 (a n : Int) (x y : D) (v : Value) (b : UInt8) : (wayA a n x y v).setIfInBounds 2 (bv b) = wayA a n (fun i => if i = 0 then b else x i) y v := by
  refine arr_of 67 _ _ (by simp [wayA, arr_size]) fun i hi => ?_
  rw [Array.getElem?_setIfInBounds]
  by_cases h : 2 = i
  · subst h; rw [if_pos rfl, if_pos (by simp [wayA, arr_size])]; rfl
  · rw [if_neg h, wayA, arr_get, if_pos hi]
    congr 1
    by_cases h0 : i = 0
    · rw [if_pos h0, if_pos h0]
    · by_cases h1 : i = 1
      · simp only [if_neg h0, if_pos h1]
      · have h2 : ¬ i - 2 = 0 := by omega
        simp only [if_neg h0, if_neg h1, if_neg h2]
theorem way_set66 (a n : Int) (x y : D) (v u : Value) : (wayA a n x y v).setIfInBounds 66 u = wayA a n x y u := by
  refine arr_of 67 _ _ (by simp [wayA, arr_size]) fun i hi => ?_
  rw [Array.getElem?_setIfInBounds]
  by_cases h : 66 = i
  · subst h; rw [if_pos rfl, if_pos (by simp [wayA, arr_size])]; rfl
  · rw [if_neg h, wayA, arr_get, if_pos hi]
    congr 1
    by_cases h66 : i < 66
    · simp only [if_pos h66]
    · omega
theorem own_cap {w : World} {B n k c : Nat} {e : TypeId} {A : Option Addr} {xs : List Value} (h : w.ownsRow B e k (.slice A n c) n xs) : n ≤ c := by
  obtain ⟨A', c', e, hc⟩ := own_len h
  injection e with _ _ e
  omega
theorem own_addr {w : World} {B N c : Nat} {A : Option Addr} {P : List D} (h : w.ownsRow B 23 32 (.slice A N c) N (idCells P)) (hN : 0 < N) : ∃ g, A = some ⟨g, 0, none⟩ := by
  rcases h.2 with h0 | ⟨g, cap, cur, e, _⟩
  · injection h0.1 with _ e
    omega
  · injection e with e1 e2 e3
    exact ⟨g, e1⟩
theorem own_cell {w : World} {B N c g k : Nat} {P : List D} (h : w.ownsRow B 23 32 (.slice (some ⟨g, 0, none⟩) N c) N (idCells P)) (hN : N ≤ 40) (hk : k < N) (i : Nat) (hi : i < 32) : w.cell? ⟨g, k * 32 + i, none⟩ = some (bv (P.getD k dz i)) := by
  have hr := own_rd h (by omega)
  obtain ⟨ad, e, _, hc⟩ := hr.at_ hk
  injection e with e
  subst e
  have := hc i hi
  rw [add_add, add_zero_block] at this
  rw [Nat.mul_comm k 32]
  exact this
theorem own_frozen {w : World} {B N c g i : Nat} {P : List D} (h : w.ownsRow B 23 32 (.slice (some ⟨g, 0, none⟩) N c) N (idCells P)) : w.frozen? ⟨g, i, none⟩ = false := by
  rcases h.2 with h0 | ⟨g', cap, cur, e, _, hb, _⟩
  · injection h0.1 with e _
    cases e
  · injection e with e _ _
    injection e with e
    injection e with e
    subst e
    exact Blk.frozen hb i
theorem own_rd_set {w : World} {B N c g k : Nat} {P : List D} (h : w.ownsRow B 23 32 (.slice (some ⟨g, 0, none⟩) N c) N (idCells P)) (hN : N ≤ 40) (hk : k < N) (b : UInt8) : RdI (w.setCell ⟨g, k * 32 + 5, none⟩ (bv b)) (fun i => i < (w.setCell ⟨g, k * 32 + 5, none⟩ (bv b)).heap.size) (.slice (some ⟨g, 0, none⟩) N c) (P.set k (fun i => if i = 5 then b else P.getD k dz i)) := by
  have hr := own_rd h (by omega)
  obtain ⟨A, c', e, h1, h2, h3⟩ := id hr
  injection e with e1 e2 e3
  subst e3
  obtain ⟨ad, e, hb, hc⟩ := h3 (by omega)
  subst e1
  injection e with e
  subst e
  have hlen : P.length = N := e2.symm
  have c5 := own_cell h hN hk 5 (by omega)
  have hz : (w.setCell ⟨g, k * 32 + 5, none⟩ (bv b)).heap.size = w.heap.size := by simp
  refine ⟨_, c, by rw [List.length_set, hlen], by rw [List.length_set]; exact h1, by rw [List.length_set]; exact h2, fun _ => ⟨_, rfl, by rw [hz]; exact hb.2.2, fun j hj i hi => ?_⟩⟩
  rw [List.length_set] at hj
  have hcj := hc j hj i hi
  rw [add_zero_block] at hcj ⊢
  rw [List.getD_eq_getElem?_getD, List.getElem?_set]
  by_cases hkj : k = j
  · subst hkj
    rw [if_pos rfl, if_pos hj]
    simp only [Option.getD_some]
    by_cases hi5 : i = 5
    · subst hi5
      rw [if_pos rfl, Nat.mul_comm 32 k]
      exact World.cell?_setCell_same _ _ _ c5
    · rw [if_neg hi5, World.cell?_setCell_other _ _ _ _ (by intro e; injection e with _ e; omega)]
      exact hcj
  · rw [if_neg hkj, World.cell?_setCell_other _ _ _ _ (by intro e; injection e with _ e; omega), ← List.getD_eq_getElem?_getD]
    exact hcj
theorem own_rd_lt {w : World} {B n : Nat} {v : Value} {l : List D} (h : w.ownsRow B 23 32 v n (idCells l)) (hm : n ≤ 4398046511104) : RdI w (fun b => b < w.heap.size) v l := (own_rd h hm).mono fun _ hb => hb.2.2
theorem bits_one (b : UInt8) : bits .xor .u8 (b.toNat : Int) 1 = ((b ^^^ 1).toNat : Int) := by
  have h : ∀ n : Fin 256, bits .xor .u8 (n.val : Int) 1 = ((n.val ^^^ 1 : Nat) : Int) := by decide +kernel
  rw [UInt8.toNat_xor]
  exact h ⟨b.toNat, b.toNat_lt⟩
theorem xor_one (b : UInt8) (w : World) : (binOp .xor 5 (bv b) (.int .u8 1)).run Tryd.prog w = .ok (bv (b ^^^ 1)) w := by
  unfold bv
  go_simp
  have h : ∀ n : Fin 256, bits .xor .u8 (n.val : Int) 1 = ((n.val ^^^ 1 : Nat) : Int) := by decide +kernel
  exact h ⟨b.toNat, b.toNat_lt⟩
/-- The bytes 9, 0, 0, .. -/
def nine : D := fun i => if i = 0 then 9 else 0
theorem wpList_build_idW {ops : Array Oper} {rest : List Oper} {o : Oper} {a : Act} {w : World} {Q : Exit → Act → World → Prop} (hgd : o.guard = none) (x : Operand) (ho : o.op = .buildSlice 24 1 #[(0, x)]) (f : D) (hx : a.eval x = .agg (arr 32 fun i => bv (f i)))
    (h : wpList Tryd.prog ops Q rest (a.put o.dst (.slice (some ⟨w.heap.size, 0, none⟩) 1 1)) (w.alloc (.cells (arr 32 fun i => bv (f i)) 23))) : wpList Tryd.prog ops Q (o :: rest) a w :=
  wpList_plain hgd fun _ hK => wp_build_idc x ho f (by rw [hx, idc_arr]) (hK _ _ h)
/-- An ID more behind an own row, beside a block that stays. -/
theorem own_more {W : World} {B N gW : Nat} {v : Value} {P : List D} {f : D} {t : TypeId} {cs : Array Value} (hB : B ≤ W.heap.size) (ho : W.ownsRow B 23 32 v N (idCells P)) (hk : Blk W gW t cs) (hne : ∀ i, v.ownBlock = some i → i ≠ gW) (hN : N ≤ 40) :
    ∃ g cap W7, (Builtin.append_ #[24, 24] 24 #[v, .slice (some ⟨W.heap.size, 0, none⟩) 1 1]).run Tryd.prog (W.alloc (.cells (arr 32 fun i => bv (f i)) 23)) = .ok (.slice (some ⟨g, 0, none⟩) (N + 1) cap) W7 ∧
      W7.ownsRow B 23 32 (.slice (some ⟨g, 0, none⟩) (N + 1) cap) (N + 1) (idCells (P ++ [f])) ∧ Blk W7 gW t cs ∧ g ≠ gW ∧ Below B W W7 := by
  have h1 : Below W.heap.size W (W.alloc (.cells (arr 32 fun i => bv (f i)) 23)) := (Below.refl _ _).alloc (Nat.le_refl _) _
  have o6 := Turn.own (Turn.of_below h1) ho (fun i hi => by have := (ho.lt i hi).2; omega)
  obtain ⟨g, cap, W7, r, o7, gr, hg⟩ := app_id (Nat.le_trans hB h1.size) o6 f (Blk.new _ _ _) (by omega)
  refine ⟨g, cap, W7, r, by rw [idCells_append, idCells_one]; exact o7, Blk.grown (hk.alloc _) gr (fun h => hne _ h.symm rfl), ?_, ?_⟩
  · rcases hg with h | h
    · exact hne g h
    · have := hk.lt
      have := h1.size
      omega
  · exact ((((Turn.refl (fun i => B ≤ i) W).alloc _).grown gr (fun i hi _ => (ho.lt i hi).1))).below hB (fun i hi => by omega)
theorem own_zero_apart {g gW : Nat} (h : gW < g) : ∀ i, Value.ownBlock (.slice (some ⟨g, 0, none⟩) 0 0) = some i → i ≠ gW := fun i hi => by
  cases hi
  exact Nat.ne_of_gt h
theorem own_zero {w : World} {B g : Nat} (hB : B ≤ g) (h : w.heap[g]? = some (.cells #[] 23 (0, 0))) : w.ownsRow B 23 32 (.slice (some ⟨g, 0, none⟩) 0 0) 0 [] :=
  ⟨rfl, .inr ⟨g, 0, #[], rfl, hB, h, Nat.le_refl _, by unfold maxLen; omega, rfl, rfl⟩⟩
theorem turn_setRow (w : World) (g : Nat) (cs : Array Value) : Turn (fun i => i = g) w (w.setRow g cs) :=
  ⟨rfl, rfl, rfl, by rw [size_setRow]; exact Nat.le_refl _, fun i _ hn => setRow_other w g i cs hn⟩
theorem yieldsIf_build {P : Program} {ops : Array Oper} {S : World → Prop} {op : Oper} {a : Act} (hw : Region.wanted op (yielded ops a.tmps) = true) (t : TypeId) (parts : Array (Nat × Operand)) (ho : op.op = .build t parts)
    (cells : Array Value) (hc : P.built t (parts.map fun (i, x) => (i, a.eval x)).toList = some cells) : YieldsIf P ops S op (.agg cells) a :=
  .inl ⟨hw, fun w _ => by
    unfold execOp
    simp only [ho, Sem.run_bind, run_build w t _ cells hc, Result.andThen_ok]
    rfl⟩
set_option maxRecDepth 100000 in
set_option maxHeartbeats 4000000 in
theorem wrong_range (v : Value) (l : List D) (a : Int) (c0 c1 : Int) (w : World) (hT : Tables w) (hr : RdI w (fun b => b < w.heap.size) v l) (q : Nat) (hq : min l.length 30 = q) (ha : a < 0 ∨ (q : Int) ≤ a) :
    Calls Tryd.prog 5 #[v, .int .i64 a, .agg #[.int .i64 c0, .int .i64 c1]] w fun e w' => e = .returned (.bool true) ∧ Below w.heap.size w w' := by
  obtain ⟨A, c, rfl, hlc, _⟩ := id hr
  obtain ⟨n, hn⟩ : ∃ n, l.length = n := ⟨_, rfl⟩
  rw [hn] at hr hlc hq ⊢
  have hr1 := hr.take (k := q) (by omega)
  have hn1 : (l.take q).length = q := by rw [List.length_take]; omega
  have hmin : min (n : Int) 30 = (q : Int) := by omega
  have hq30 : q ≤ 30 := by omega
  have hqs : ∀ W, (Instr.sliceAt 24 (.slice A n c) none (some (.int .i64 (q : Int))) none).run Tryd.prog W = .ok (.slice A q c) W := fun W => run_slice_toN (P := Tryd.prog) 24 23 Tryd.underlying24 32 (by kernel_rfl) A n c q (by omega) W
  generalize l.take q = s at *
  have hb0 : Below w.heap.size w (w.alloc (.cells #[.int .i64 c0, .int .i64 c1] 34)) := (Below.refl _ _).alloc (Nat.le_refl _) _
  have HPR := Lib.hid (proves_any _ (hT.below hb0))
  have HB0 := Lib.hid hb0
  have HIN : Hid (∀ W, Below w.heap.size w W → Calls Tryd.prog 16 #[.slice A q c, .int .i64 a] W fun e w' => e = .returned (.tuple #[.slice none 0 0, .int .i64 1]) ∧ w' = W) := Lib.hid fun W hb => by
    have := inclusion_range (.slice A q c) s a W ((hr1.old hb).mono fun b hb' => Nat.lt_of_lt_of_le hb' hb.size) (by rw [hn1]; omega)
    exact this
  clear hr hr1 hT hn hlc hq hn1 ha hb0
  go_enter Tryd.func5, Tryd.ntmps5
  go_wp2_with (first
    | (go_at_call 11; refine HPR.out.mono ?_; rintro e W1 ⟨rfl, hb1⟩; have HB1 := Lib.hid (HB0.out.trans (hb1.mono HB0.out.size)); clear hb1 HPR)
    | (go_at_call 16; refine (HIN.out _ HB1.out).mono ?_; rintro e W2 ⟨rfl, h2⟩; obtain rfl := h2.symm))
  go_ret
  exact ⟨rfl, HB1.out⟩
set_option maxRecDepth 100000 in
set_option maxHeartbeats 4000000 in
theorem wrong_in (v : Value) (l : List D) (a : Nat) (c0 c1 : Int) (w : World) (hT : Tables w) (hr : RdI w (fun b => b < w.heap.size) v l) (q : Nat) (hq : min l.length 30 = q) (ha : a < q) :
    Calls Tryd.prog 5 #[v, .int .i64 (a : Int), .agg #[.int .i64 c0, .int .i64 c1]] w fun e w' => e = .returned (.bool true) ∧ Below w.heap.size w w' := by
  obtain ⟨A, c, rfl, hlc, _⟩ := id hr
  obtain ⟨n, hn⟩ : ∃ n, l.length = n := ⟨_, rfl⟩
  rw [hn] at hr hlc hq ⊢
  have hr1 := hr.take (k := q) (by omega)
  have hn1 : (l.take q).length = q := by rw [List.length_take]; omega
  have hmin : min (n : Int) 30 = (q : Int) := by omega
  have hq30 : q ≤ 30 := by omega
  have hqs : ∀ W, (Instr.sliceAt 24 (.slice A n c) none (some (.int .i64 (q : Int))) none).run Tryd.prog W = .ok (.slice A q c) W := fun W => run_slice_toN (P := Tryd.prog) 24 23 Tryd.underlying24 32 (by kernel_rfl) A n c q (by omega) W
  generalize l.take q = s at *
  have hb0 : Below w.heap.size w (w.alloc (.cells #[.int .i64 c0, .int .i64 c1] 34)) := (Below.refl _ _).alloc (Nat.le_refl _) _
  have HPR := Lib.hid (proves_any _ (hT.below hb0))
  have h5 : Blk (w.alloc (.cells #[.int .i64 c0, .int .i64 c1] 34)) w.heap.size 34 #[.int .i64 c0, .int .i64 c1] := Blk.new w _ _
  have HB0 := Lib.hid hb0
  have H5 := Lib.hid h5
  have haq : (a : Int) < (q : Int) := by omega
  have ha0 : (0 : Int) ≤ (a : Int) := by omega
  obtain ⟨x, hx⟩ : ∃ x, s.getD a dz = x := ⟨_, rfl⟩
  obtain ⟨R, hR⟩ : ∃ R, mth s = R := ⟨_, rfl⟩
  obtain ⟨ad, e, _, _⟩ := hr1.at_ ha
  subst e
  have HLP : Hid (∀ W, Below w.heap.size w W → ∀ i, i < 32 → W.cell? ((ad.add (a * 32)).add i) = some (bv (x i))) := Lib.hid fun W hb => by
    obtain ⟨ad', e, _, hc⟩ := (hr1.old hb).at_ ha
    injection e with e
    subst e
    rw [Nat.mul_comm 32 a, hx] at hc
    exact hc
  have HRT : Hid (∀ W, Below w.heap.size w W → Calls Tryd.prog 17 #[.slice (some ad) q c] W fun e w' => e = .returned (.agg (arr 32 fun i => bv (R i))) ∧ Below W.heap.size W w') := Lib.hid fun W hb => by
    have := refRoot_any q s _ W hn1 (by omega) ((hr1.old hb).mono fun b hb' => Nat.lt_of_lt_of_le hb' hb.size)
    rw [hR] at this
    exact this
  have HIN : Hid (∀ W, Below w.heap.size w W → Calls Tryd.prog 16 #[.slice (some ad) q c, .int .i64 (a : Int)] W fun e w' => ∃ g N P, e = .returned (.tuple #[.slice (some ⟨g, 0, none⟩) N N, .int .i64 0]) ∧ N ≤ 40 ∧ RdI w' (fun b => W.heap.size ≤ b ∧ b < w'.heap.size) (.slice (some ⟨g, 0, none⟩) N N) P ∧ Below W.heap.size W w') := Lib.hid fun W hb => by
    refine (inclusion_in (.slice (some ad) q c) s a W (hT.below hb) ((hr1.old hb).mono fun b hb' => Nat.lt_of_lt_of_le hb' hb.size) (by omega) (by omega)).mono ?_
    rintro e w' ⟨g, N, he, hN, hrp, hb'⟩
    exact ⟨g, N, _, he, by have := wayP_length 40 a 0 s.length (by omega); omega, hrp, hb'⟩
  have HT := Lib.hid hT
  clear hr hr1 hT hn hlc hq hn1 ha hb0 h5 hx hR
  go_enter Tryd.func5, Tryd.ntmps5
  go_upto_region 7 with (first
    | (go_at_call 11; refine HPR.out.mono ?_; rintro e W1 ⟨rfl, hb1⟩; have K5 := Lib.hid (Blk.below H5.out hb1 H5.out.lt); have HB1 := Lib.hid (HB0.out.trans (hb1.mono HB0.out.size)); clear hb1 HPR)
    | (go_at_call 16; refine (HIN.out _ HB1.out).mono ?_; rintro e W2 ⟨g, N, P, rfl, hN, hrp, hb2⟩; have J5 := Lib.hid (Blk.below K5.out hb2 K5.out.lt); have HB2 := Lib.hid (HB1.out.trans (hb2.mono HB1.out.size)); have HRP := Lib.hid (hrp.mono fun b hb => hb.2); have HN := Lib.hid hN; clear hb2 HIN hrp hN))
  have hbX : Below W2.heap.size W2 W2.drew := (Below.refl _ _).drew
  go_cut [9] from 26 to 39 (fun s9 wx => ∃ gW ve, s9 = .pointer (some ⟨gW, 0, none⟩) ∧ Blk wx gW 26 (wayA (a : Int) (q : Int) x R ve) ∧ W2.heap.size ≤ gW ∧ wx.ownsRow W2.heap.size 23 32 ve N (idCells P) ∧ (∀ i, ve.ownBlock = some i → i ≠ gW) ∧ Below W2.heap.size W2 wx)
  case first =>
    refine wp_region_held_drew (S := fun W' => ∀ i, i < 32 → W'.cell? ((ad.add (a * 32)).add i) = some (bv (x i))) (by kernel_rfl) ?_ (fun hHeld => ?_)
    · exact HLP.out _ (HB2.out.trans (hbX.mono HB2.out.size))
    refine wpAnyH_take (i := 0) (oi := ⟨some 26, _, _, _, _, _⟩) (v := ?_) rfl (by kernel_rfl) (by kernel_rfl) (by kernel_rfl) (fun _ _ _ h => h) (Or.inl ⟨by rfl, ?_⟩) (by assumption) ?_
    rotate_left
    · intro w hSw; (try dsimp only at hSw); go_simp; try (with_reducible rfl)
    rotate_left 0
    try simp only [Act.put, List.setIfInBounds_toArray, List.set_cons_zero, List.set_cons_succ]
    refine wpAnyH_take (i := 1) (oi := ⟨some 27, _, _, _, _, _⟩) (v := ?_) rfl (by kernel_rfl) (by kernel_rfl) (by kernel_rfl) (fun _ _ _ h => h) (Or.inl ⟨by rfl, ?_⟩) (by assumption) ?_
    rotate_left
    · intro w hSw; (try dsimp only at hSw); go_simp; try (with_reducible rfl)
    rotate_left 0
    try simp only [Act.put, List.setIfInBounds_toArray, List.set_cons_zero, List.set_cons_succ]
    refine wpAnyH_take (i := 2) (oi := ⟨some 28, _, _, _, _, _⟩) (v := ?_) rfl (by kernel_rfl) (by kernel_rfl) (by kernel_rfl) (fun _ _ _ h => h) (Or.inl ⟨by rfl, ?_⟩) (by assumption) ?_
    rotate_left
    · intro w hSw; (try dsimp only at hSw); go_simp; try (with_reducible rfl)
    rotate_left 0
    try simp only [Act.put, List.setIfInBounds_toArray, List.set_cons_zero, List.set_cons_succ]
    refine wpAnyH_take (i := 3) (oi := ⟨some 29, _, _, _, _, _⟩) (v := ?_) rfl (by kernel_rfl) (by kernel_rfl) (by kernel_rfl) (fun _ _ _ h => h) (Or.inl ⟨by rfl, ?_⟩) (by assumption) ?_
    rotate_left
    · intro w hSw; (try dsimp only at hSw); go_simp; try (with_reducible rfl)
    rotate_left 0
    try simp only [Act.put, List.setIfInBounds_toArray, List.set_cons_zero, List.set_cons_succ]
    refine wpAnyH_take (i := 4) (oi := ⟨some 30, _, _, _, _, _⟩) (v := ?_) rfl (by kernel_rfl) (by kernel_rfl) (by kernel_rfl) (fun _ _ _ h => h) (Or.inl ⟨by rfl, ?_⟩) (by assumption) ?_
    rotate_left
    · intro w hSw; (try dsimp only at hSw); go_simp; try (with_reducible rfl)
    rotate_left 0
    try simp only [Act.put, List.setIfInBounds_toArray, List.set_cons_zero, List.set_cons_succ]
    refine wpAnyH_take (i := 5) (oi := ⟨some 31, _, _, _, _, _⟩) (v := ?_) rfl (by kernel_rfl) (by kernel_rfl) (by kernel_rfl) (fun _ _ _ h => h) (Or.inl ⟨by rfl, ?_⟩) (by assumption) ?_
    rotate_left
    · intro w hSw; (try dsimp only at hSw); go_simp; try (with_reducible rfl)
    rotate_left 0
    try simp only [Act.put, List.setIfInBounds_toArray, List.set_cons_zero, List.set_cons_succ]
    refine wpAnyH_take (i := 6) (oi := ⟨some 32, _, _, _, _, _⟩) (v := (.agg (arr 32 fun i => bv (x i)))) rfl (by kernel_rfl) (by kernel_rfl) (by kernel_rfl) (fun _ _ _ h => h) (yieldsIf_load_at (by rfl) 23 _ rfl (ad.add (a * 32)) rfl 32 (fun i => bv (x i)) 5 (fun _ hS => hS) Tryd.underlying23 (by kernel_rfl)) (by assumption) ?_
    try simp only [Act.put, List.setIfInBounds_toArray, List.set_cons_zero, List.set_cons_succ]
    refine wpAnyH_take (i := 7) (oi := ⟨some 33, _, _, _, _, _⟩) (v := ?_) rfl (by kernel_rfl) (by kernel_rfl) (by kernel_rfl) (fun _ _ _ h => h) (Or.inl ⟨by rfl, ?_⟩) (by assumption) ?_
    rotate_left
    · intro w hSw; (try dsimp only at hSw); go_simp; try (with_reducible rfl)
    rotate_left 0
    try simp only [Act.put, List.setIfInBounds_toArray, List.set_cons_zero, List.set_cons_succ]
    refine wpAnyH_take (i := 10) (oi := ⟨some 36, _, _, _, _, _⟩) (v := ?_) rfl (by kernel_rfl) (by kernel_rfl) (by kernel_rfl) (fun _ _ _ h => h) (Or.inl ⟨by rfl, ?_⟩) (by assumption) ?_
    rotate_left
    · intro w hSw; (try dsimp only at hSw); go_simp; try (with_reducible rfl)
    rotate_left 0
    try simp only [Act.put, List.setIfInBounds_toArray, List.set_cons_zero, List.set_cons_succ]
    refine wpAnyH_ready (rs := [8, 9, 13]) (by kernel_rfl) (by simp) ?_
    refine (AllReadyH.cons (o := ⟨some 34, _, _, _, _, _⟩) rfl (fun K hK => ?_) (AllReadyH.cons (o := ⟨some 35, _, _, _, _, _⟩) rfl (fun K hK => ?_) (AllReadyH.cons (o := ⟨some 9, _, _, _, _, _⟩) rfl (fun K hK => ?_) AllReadyH.nil)))
    · (try rw [if_pos (by rfl)])
      go_simp
      refine (HRT.out _ (HB2.out.trans (hbX.mono HB2.out.size))).mono ?_
      rintro e W3 ⟨rfl, hb3⟩
      (try replace kE := own_below kE hb3)
      (try replace kO := own_below kO hb3)
      (try replace kW := Blk.below kW hb3 (Blk.lt kW))
      replace hbX := hbX.trans (hb3.mono hbX.size)
      clear hb3
      try dsimp only
      refine hK.out _ _ (HLP.out _ (HB2.out.trans (hbX.mono HB2.out.size))) (fun hHeld => ?_)
      clear hK K
      try simp only [Act.put, List.setIfInBounds_toArray, List.set_cons_zero, List.set_cons_succ]
      refine wpAnyH_ready (rs := [9, 13]) (by kernel_rfl) (by simp) ?_
      refine (AllReadyH.cons (o := ⟨some 35, _, _, _, _, _⟩) rfl (fun K hK => ?_) (AllReadyH.cons (o := ⟨some 9, _, _, _, _, _⟩) rfl (fun K hK => ?_) AllReadyH.nil))
      · (try rw [if_pos (by rfl)])
        go_simp
        first | refine alloc_gen ?_ | refine alloc_genD ?_
        intro Wa hka hba
        have kE := own_zero hbX.size hka
        (try have hne := own_zero_apart (Blk.lt kW))
        (try replace kW := Blk.below kW hba (Blk.lt kW))
        replace hbX : Below W2.heap.size W2 Wa := by first | exact hbX.trans (hba.mono hbX.size) | exact hba
        clear hka hba
        try dsimp only
        refine hK.out _ _ (HLP.out _ (HB2.out.trans (hbX.mono HB2.out.size))) (fun hHeld => ?_)
        clear hK K
        try simp only [Act.put, List.setIfInBounds_toArray, List.set_cons_zero, List.set_cons_succ]
        refine wpAnyH_ready (rs := [11, 13]) (by kernel_rfl) (by simp) ?_
        refine (AllReadyH.cons (o := ⟨some 37, _, _, _, _, _⟩) rfl (fun K hK => ?_) (AllReadyH.cons (o := ⟨some 9, _, _, _, _, _⟩) rfl (fun K hK => ?_) AllReadyH.nil))
        · (try rw [if_pos (by rfl)])
          obtain ⟨ve, Wb, hrun, ho, hgr, hve⟩ := app_ids (n := 0) (m := N) hbX.size kE (HRP.out.old hbX) (by have := HN.out; omega)
          refine oper_appendW (.tmp 35) (.tmp 36) _ _ rfl _ _ rfl rfl _ _ hrun ?_
          rw [Nat.zero_add, List.nil_append] at ho
          obtain ⟨Av, cv, rfl, _⟩ := own_len ho
          have kO := ho
          (try have hnO := own_apart hve hne (Blk.lt kW))
          (try replace kW := Blk.grown kW hgr (fun h => hne _ h.symm rfl))
          have hbG : Below W2.heap.size _ Wb := ((Turn.refl (fun i => W2.heap.size ≤ i) _).grown hgr (fun i hi _ => (kE.lt i hi).1)).below hbX.size (fun i hi => by omega)
          replace hbX := hbX.trans hbG
          clear hrun ho hgr hve kE hbG
          try simp only [Act.put, List.setIfInBounds_toArray, List.set_cons_zero, List.set_cons_succ]
          try dsimp only
          refine hK.out _ _ (HLP.out _ (HB2.out.trans (hbX.mono HB2.out.size))) (fun hHeld => ?_)
          clear hK K
          try simp only [Act.put, List.setIfInBounds_toArray, List.set_cons_zero, List.set_cons_succ]
          refine wpAnyH_take (i := 12) (oi := ⟨some 38, _, _, _, _, _⟩) (v := (.agg (wayA (a : Int) (q : Int) x R (.slice Av N cv)))) rfl (by kernel_rfl) (by kernel_rfl) (by kernel_rfl) (fun _ _ _ h => h) (yieldsIf_build (by rfl) 26 _ rfl (wayA (a : Int) (q : Int) x R (.slice Av N cv)) (by kernel_rfl)) (by assumption) ?_
          try simp only [Act.put, List.setIfInBounds_toArray, List.set_cons_zero, List.set_cons_succ]
          refine wpAnyH_ready (rs := [13]) (by kernel_rfl) (by simp) ?_
          refine (AllReadyH.cons (o := ⟨some 9, _, _, _, _, _⟩) rfl (fun K hK => ?_) AllReadyH.nil)
          (try rw [if_pos (by rfl)])
          go_simp
          first | refine alloc_gen ?_ | refine alloc_genD ?_
          intro Wa hka hba
          have kW := hka
          have hgW := hbX.size
          (try have hne := fun i hi => Nat.ne_of_lt (kE.lt i hi).2)
          (try have hnO := fun i hi => Nat.ne_of_lt (kO.lt i hi).2)
          (try replace kE := own_below kE hba)
          (try replace kO := own_below kO hba)
          replace hbX : Below W2.heap.size W2 Wa := by first | exact hbX.trans (hba.mono hbX.size) | exact hba
          clear hka hba
          try dsimp only
          refine hK.out _ _ (HLP.out _ (HB2.out.trans (hbX.mono HB2.out.size))) (fun hHeld => ?_)
          clear hK K
          try simp only [Act.put, List.setIfInBounds_toArray, List.set_cons_zero, List.set_cons_succ]
          refine wpAnyH_ready (rs := [14]) (by kernel_rfl) (by simp) ?_
          refine (AllReadyH.cons (o := ⟨none, _, _, _, _, _⟩) rfl (fun K hK => ?_) AllReadyH.nil)
          (try rw [if_pos (by rfl)])
          refine wp_store_row 26 _ _ rfl _ (wayA (a : Int) (q : Int) x R (.slice Av N cv)) rfl rfl 26 _ kW (by kernel_rfl) (by kernel_rfl) (by kernel_rfl) ?_
          have hbs := below_setRow hbX hgW (wayA (a : Int) (q : Int) x R (.slice Av N cv))
          have kW2 := Blk.setRow kW (wayA (a : Int) (q : Int) x R (.slice Av N cv))
          have kO2 := Turn.own (turn_setRow _ _ (wayA (a : Int) (q : Int) x R (.slice Av N cv))) kO hnO
          clear kW kO hbX
          have kW := kW2
          have kO := kO2
          have hbX := hbs
          clear kW2 kO2 hbs
          try simp only [Act.put]
          try dsimp only
          refine hK.out _ _ (HLP.out _ (HB2.out.trans (hbX.mono HB2.out.size))) (fun hHeld => ?_)
          clear hK K
          try simp only [Act.put, List.setIfInBounds_toArray, List.set_cons_zero, List.set_cons_succ]
          refine wpAnyH_done (by kernel_rfl) ?_ _
          go_wp2_with fail
          go_meet
          exact ⟨_, _, rfl, kW, hgW, kO, hnO, hbX⟩
        · (try rw [if_pos (by rfl)])
          go_simp
          first | refine alloc_gen ?_ | refine alloc_genD ?_
          intro Wa hka hba
          have kW := hka
          have hgW := hbX.size
          (try have hne := fun i hi => Nat.ne_of_lt (kE.lt i hi).2)
          (try have hnO := fun i hi => Nat.ne_of_lt (kO.lt i hi).2)
          (try replace kE := own_below kE hba)
          (try replace kO := own_below kO hba)
          replace hbX : Below W2.heap.size W2 Wa := by first | exact hbX.trans (hba.mono hbX.size) | exact hba
          clear hka hba
          try dsimp only
          refine hK.out _ _ (HLP.out _ (HB2.out.trans (hbX.mono HB2.out.size))) (fun hHeld => ?_)
          clear hK K
          try simp only [Act.put, List.setIfInBounds_toArray, List.set_cons_zero, List.set_cons_succ]
          refine wpAnyH_ready (rs := [11]) (by kernel_rfl) (by simp) ?_
          refine (AllReadyH.cons (o := ⟨some 37, _, _, _, _, _⟩) rfl (fun K hK => ?_) AllReadyH.nil)
          (try rw [if_pos (by rfl)])
          obtain ⟨ve, Wb, hrun, ho, hgr, hve⟩ := app_ids (n := 0) (m := N) hbX.size kE (HRP.out.old hbX) (by have := HN.out; omega)
          refine oper_appendW (.tmp 35) (.tmp 36) _ _ rfl _ _ rfl rfl _ _ hrun ?_
          rw [Nat.zero_add, List.nil_append] at ho
          obtain ⟨Av, cv, rfl, _⟩ := own_len ho
          have kO := ho
          (try have hnO := own_apart hve hne (Blk.lt kW))
          (try replace kW := Blk.grown kW hgr (fun h => hne _ h.symm rfl))
          have hbG : Below W2.heap.size _ Wb := ((Turn.refl (fun i => W2.heap.size ≤ i) _).grown hgr (fun i hi _ => (kE.lt i hi).1)).below hbX.size (fun i hi => by omega)
          replace hbX := hbX.trans hbG
          clear hrun ho hgr hve kE hbG
          try simp only [Act.put, List.setIfInBounds_toArray, List.set_cons_zero, List.set_cons_succ]
          try dsimp only
          refine hK.out _ _ (HLP.out _ (HB2.out.trans (hbX.mono HB2.out.size))) (fun hHeld => ?_)
          clear hK K
          try simp only [Act.put, List.setIfInBounds_toArray, List.set_cons_zero, List.set_cons_succ]
          refine wpAnyH_take (i := 12) (oi := ⟨some 38, _, _, _, _, _⟩) (v := (.agg (wayA (a : Int) (q : Int) x R (.slice Av N cv)))) rfl (by kernel_rfl) (by kernel_rfl) (by kernel_rfl) (fun _ _ _ h => h) (yieldsIf_build (by rfl) 26 _ rfl (wayA (a : Int) (q : Int) x R (.slice Av N cv)) (by kernel_rfl)) (by assumption) ?_
          try simp only [Act.put, List.setIfInBounds_toArray, List.set_cons_zero, List.set_cons_succ]
          refine wpAnyH_ready (rs := [14]) (by kernel_rfl) (by simp) ?_
          refine (AllReadyH.cons (o := ⟨none, _, _, _, _, _⟩) rfl (fun K hK => ?_) AllReadyH.nil)
          (try rw [if_pos (by rfl)])
          refine wp_store_row 26 _ _ rfl _ (wayA (a : Int) (q : Int) x R (.slice Av N cv)) rfl rfl 26 _ kW (by kernel_rfl) (by kernel_rfl) (by kernel_rfl) ?_
          have hbs := below_setRow hbX hgW (wayA (a : Int) (q : Int) x R (.slice Av N cv))
          have kW2 := Blk.setRow kW (wayA (a : Int) (q : Int) x R (.slice Av N cv))
          have kO2 := Turn.own (turn_setRow _ _ (wayA (a : Int) (q : Int) x R (.slice Av N cv))) kO hnO
          clear kW kO hbX
          have kW := kW2
          have kO := kO2
          have hbX := hbs
          clear kW2 kO2 hbs
          try simp only [Act.put]
          try dsimp only
          refine hK.out _ _ (HLP.out _ (HB2.out.trans (hbX.mono HB2.out.size))) (fun hHeld => ?_)
          clear hK K
          try simp only [Act.put, List.setIfInBounds_toArray, List.set_cons_zero, List.set_cons_succ]
          refine wpAnyH_done (by kernel_rfl) ?_ _
          go_wp2_with fail
          go_meet
          exact ⟨_, _, rfl, kW, hgW, kO, hnO, hbX⟩
      · (try rw [if_pos (by rfl)])
        go_simp
        first | refine alloc_gen ?_ | refine alloc_genD ?_
        intro Wa hka hba
        have kW := hka
        have hgW := hbX.size
        (try have hne := fun i hi => Nat.ne_of_lt (kE.lt i hi).2)
        (try have hnO := fun i hi => Nat.ne_of_lt (kO.lt i hi).2)
        (try replace kE := own_below kE hba)
        (try replace kO := own_below kO hba)
        replace hbX : Below W2.heap.size W2 Wa := by first | exact hbX.trans (hba.mono hbX.size) | exact hba
        clear hka hba
        try dsimp only
        refine hK.out _ _ (HLP.out _ (HB2.out.trans (hbX.mono HB2.out.size))) (fun hHeld => ?_)
        clear hK K
        try simp only [Act.put, List.setIfInBounds_toArray, List.set_cons_zero, List.set_cons_succ]
        refine wpAnyH_ready (rs := [9]) (by kernel_rfl) (by simp) ?_
        refine (AllReadyH.cons (o := ⟨some 35, _, _, _, _, _⟩) rfl (fun K hK => ?_) AllReadyH.nil)
        (try rw [if_pos (by rfl)])
        go_simp
        first | refine alloc_gen ?_ | refine alloc_genD ?_
        intro Wa hka hba
        have kE := own_zero hbX.size hka
        (try have hne := own_zero_apart (Blk.lt kW))
        (try replace kW := Blk.below kW hba (Blk.lt kW))
        replace hbX : Below W2.heap.size W2 Wa := by first | exact hbX.trans (hba.mono hbX.size) | exact hba
        clear hka hba
        try dsimp only
        refine hK.out _ _ (HLP.out _ (HB2.out.trans (hbX.mono HB2.out.size))) (fun hHeld => ?_)
        clear hK K
        try simp only [Act.put, List.setIfInBounds_toArray, List.set_cons_zero, List.set_cons_succ]
        refine wpAnyH_ready (rs := [11]) (by kernel_rfl) (by simp) ?_
        refine (AllReadyH.cons (o := ⟨some 37, _, _, _, _, _⟩) rfl (fun K hK => ?_) AllReadyH.nil)
        (try rw [if_pos (by rfl)])
        obtain ⟨ve, Wb, hrun, ho, hgr, hve⟩ := app_ids (n := 0) (m := N) hbX.size kE (HRP.out.old hbX) (by have := HN.out; omega)
        refine oper_appendW (.tmp 35) (.tmp 36) _ _ rfl _ _ rfl rfl _ _ hrun ?_
        rw [Nat.zero_add, List.nil_append] at ho
        obtain ⟨Av, cv, rfl, _⟩ := own_len ho
        have kO := ho
        (try have hnO := own_apart hve hne (Blk.lt kW))
        (try replace kW := Blk.grown kW hgr (fun h => hne _ h.symm rfl))
        have hbG : Below W2.heap.size _ Wb := ((Turn.refl (fun i => W2.heap.size ≤ i) _).grown hgr (fun i hi _ => (kE.lt i hi).1)).below hbX.size (fun i hi => by omega)
        replace hbX := hbX.trans hbG
        clear hrun ho hgr hve kE hbG
        try simp only [Act.put, List.setIfInBounds_toArray, List.set_cons_zero, List.set_cons_succ]
        try dsimp only
        refine hK.out _ _ (HLP.out _ (HB2.out.trans (hbX.mono HB2.out.size))) (fun hHeld => ?_)
        clear hK K
        try simp only [Act.put, List.setIfInBounds_toArray, List.set_cons_zero, List.set_cons_succ]
        refine wpAnyH_take (i := 12) (oi := ⟨some 38, _, _, _, _, _⟩) (v := (.agg (wayA (a : Int) (q : Int) x R (.slice Av N cv)))) rfl (by kernel_rfl) (by kernel_rfl) (by kernel_rfl) (fun _ _ _ h => h) (yieldsIf_build (by rfl) 26 _ rfl (wayA (a : Int) (q : Int) x R (.slice Av N cv)) (by kernel_rfl)) (by assumption) ?_
        try simp only [Act.put, List.setIfInBounds_toArray, List.set_cons_zero, List.set_cons_succ]
        refine wpAnyH_ready (rs := [14]) (by kernel_rfl) (by simp) ?_
        refine (AllReadyH.cons (o := ⟨none, _, _, _, _, _⟩) rfl (fun K hK => ?_) AllReadyH.nil)
        (try rw [if_pos (by rfl)])
        refine wp_store_row 26 _ _ rfl _ (wayA (a : Int) (q : Int) x R (.slice Av N cv)) rfl rfl 26 _ kW (by kernel_rfl) (by kernel_rfl) (by kernel_rfl) ?_
        have hbs := below_setRow hbX hgW (wayA (a : Int) (q : Int) x R (.slice Av N cv))
        have kW2 := Blk.setRow kW (wayA (a : Int) (q : Int) x R (.slice Av N cv))
        have kO2 := Turn.own (turn_setRow _ _ (wayA (a : Int) (q : Int) x R (.slice Av N cv))) kO hnO
        clear kW kO hbX
        have kW := kW2
        have kO := kO2
        have hbX := hbs
        clear kW2 kO2 hbs
        try simp only [Act.put]
        try dsimp only
        refine hK.out _ _ (HLP.out _ (HB2.out.trans (hbX.mono HB2.out.size))) (fun hHeld => ?_)
        clear hK K
        try simp only [Act.put, List.setIfInBounds_toArray, List.set_cons_zero, List.set_cons_succ]
        refine wpAnyH_done (by kernel_rfl) ?_ _
        go_wp2_with fail
        go_meet
        exact ⟨_, _, rfl, kW, hgW, kO, hnO, hbX⟩
    · (try rw [if_pos (by rfl)])
      go_simp
      first | refine alloc_gen ?_ | refine alloc_genD ?_
      intro Wa hka hba
      have kE := own_zero hbX.size hka
      (try have hne := own_zero_apart (Blk.lt kW))
      (try replace kW := Blk.below kW hba (Blk.lt kW))
      replace hbX : Below W2.heap.size W2 Wa := by first | exact hbX.trans (hba.mono hbX.size) | exact hba
      clear hka hba
      try dsimp only
      refine hK.out _ _ (HLP.out _ (HB2.out.trans (hbX.mono HB2.out.size))) (fun hHeld => ?_)
      clear hK K
      try simp only [Act.put, List.setIfInBounds_toArray, List.set_cons_zero, List.set_cons_succ]
      refine wpAnyH_ready (rs := [8, 13]) (by kernel_rfl) (by simp) ?_
      refine (AllReadyH.cons (o := ⟨some 34, _, _, _, _, _⟩) rfl (fun K hK => ?_) (AllReadyH.cons (o := ⟨some 9, _, _, _, _, _⟩) rfl (fun K hK => ?_) AllReadyH.nil))
      · (try rw [if_pos (by rfl)])
        go_simp
        refine (HRT.out _ (HB2.out.trans (hbX.mono HB2.out.size))).mono ?_
        rintro e W3 ⟨rfl, hb3⟩
        (try replace kE := own_below kE hb3)
        (try replace kO := own_below kO hb3)
        (try replace kW := Blk.below kW hb3 (Blk.lt kW))
        replace hbX := hbX.trans (hb3.mono hbX.size)
        clear hb3
        try dsimp only
        refine hK.out _ _ (HLP.out _ (HB2.out.trans (hbX.mono HB2.out.size))) (fun hHeld => ?_)
        clear hK K
        try simp only [Act.put, List.setIfInBounds_toArray, List.set_cons_zero, List.set_cons_succ]
        refine wpAnyH_ready (rs := [11, 13]) (by kernel_rfl) (by simp) ?_
        refine (AllReadyH.cons (o := ⟨some 37, _, _, _, _, _⟩) rfl (fun K hK => ?_) (AllReadyH.cons (o := ⟨some 9, _, _, _, _, _⟩) rfl (fun K hK => ?_) AllReadyH.nil))
        · (try rw [if_pos (by rfl)])
          obtain ⟨ve, Wb, hrun, ho, hgr, hve⟩ := app_ids (n := 0) (m := N) hbX.size kE (HRP.out.old hbX) (by have := HN.out; omega)
          refine oper_appendW (.tmp 35) (.tmp 36) _ _ rfl _ _ rfl rfl _ _ hrun ?_
          rw [Nat.zero_add, List.nil_append] at ho
          obtain ⟨Av, cv, rfl, _⟩ := own_len ho
          have kO := ho
          (try have hnO := own_apart hve hne (Blk.lt kW))
          (try replace kW := Blk.grown kW hgr (fun h => hne _ h.symm rfl))
          have hbG : Below W2.heap.size _ Wb := ((Turn.refl (fun i => W2.heap.size ≤ i) _).grown hgr (fun i hi _ => (kE.lt i hi).1)).below hbX.size (fun i hi => by omega)
          replace hbX := hbX.trans hbG
          clear hrun ho hgr hve kE hbG
          try simp only [Act.put, List.setIfInBounds_toArray, List.set_cons_zero, List.set_cons_succ]
          try dsimp only
          refine hK.out _ _ (HLP.out _ (HB2.out.trans (hbX.mono HB2.out.size))) (fun hHeld => ?_)
          clear hK K
          try simp only [Act.put, List.setIfInBounds_toArray, List.set_cons_zero, List.set_cons_succ]
          refine wpAnyH_take (i := 12) (oi := ⟨some 38, _, _, _, _, _⟩) (v := (.agg (wayA (a : Int) (q : Int) x R (.slice Av N cv)))) rfl (by kernel_rfl) (by kernel_rfl) (by kernel_rfl) (fun _ _ _ h => h) (yieldsIf_build (by rfl) 26 _ rfl (wayA (a : Int) (q : Int) x R (.slice Av N cv)) (by kernel_rfl)) (by assumption) ?_
          try simp only [Act.put, List.setIfInBounds_toArray, List.set_cons_zero, List.set_cons_succ]
          refine wpAnyH_ready (rs := [13]) (by kernel_rfl) (by simp) ?_
          refine (AllReadyH.cons (o := ⟨some 9, _, _, _, _, _⟩) rfl (fun K hK => ?_) AllReadyH.nil)
          (try rw [if_pos (by rfl)])
          go_simp
          first | refine alloc_gen ?_ | refine alloc_genD ?_
          intro Wa hka hba
          have kW := hka
          have hgW := hbX.size
          (try have hne := fun i hi => Nat.ne_of_lt (kE.lt i hi).2)
          (try have hnO := fun i hi => Nat.ne_of_lt (kO.lt i hi).2)
          (try replace kE := own_below kE hba)
          (try replace kO := own_below kO hba)
          replace hbX : Below W2.heap.size W2 Wa := by first | exact hbX.trans (hba.mono hbX.size) | exact hba
          clear hka hba
          try dsimp only
          refine hK.out _ _ (HLP.out _ (HB2.out.trans (hbX.mono HB2.out.size))) (fun hHeld => ?_)
          clear hK K
          try simp only [Act.put, List.setIfInBounds_toArray, List.set_cons_zero, List.set_cons_succ]
          refine wpAnyH_ready (rs := [14]) (by kernel_rfl) (by simp) ?_
          refine (AllReadyH.cons (o := ⟨none, _, _, _, _, _⟩) rfl (fun K hK => ?_) AllReadyH.nil)
          (try rw [if_pos (by rfl)])
          refine wp_store_row 26 _ _ rfl _ (wayA (a : Int) (q : Int) x R (.slice Av N cv)) rfl rfl 26 _ kW (by kernel_rfl) (by kernel_rfl) (by kernel_rfl) ?_
          have hbs := below_setRow hbX hgW (wayA (a : Int) (q : Int) x R (.slice Av N cv))
          have kW2 := Blk.setRow kW (wayA (a : Int) (q : Int) x R (.slice Av N cv))
          have kO2 := Turn.own (turn_setRow _ _ (wayA (a : Int) (q : Int) x R (.slice Av N cv))) kO hnO
          clear kW kO hbX
          have kW := kW2
          have kO := kO2
          have hbX := hbs
          clear kW2 kO2 hbs
          try simp only [Act.put]
          try dsimp only
          refine hK.out _ _ (HLP.out _ (HB2.out.trans (hbX.mono HB2.out.size))) (fun hHeld => ?_)
          clear hK K
          try simp only [Act.put, List.setIfInBounds_toArray, List.set_cons_zero, List.set_cons_succ]
          refine wpAnyH_done (by kernel_rfl) ?_ _
          go_wp2_with fail
          go_meet
          exact ⟨_, _, rfl, kW, hgW, kO, hnO, hbX⟩
        · (try rw [if_pos (by rfl)])
          go_simp
          first | refine alloc_gen ?_ | refine alloc_genD ?_
          intro Wa hka hba
          have kW := hka
          have hgW := hbX.size
          (try have hne := fun i hi => Nat.ne_of_lt (kE.lt i hi).2)
          (try have hnO := fun i hi => Nat.ne_of_lt (kO.lt i hi).2)
          (try replace kE := own_below kE hba)
          (try replace kO := own_below kO hba)
          replace hbX : Below W2.heap.size W2 Wa := by first | exact hbX.trans (hba.mono hbX.size) | exact hba
          clear hka hba
          try dsimp only
          refine hK.out _ _ (HLP.out _ (HB2.out.trans (hbX.mono HB2.out.size))) (fun hHeld => ?_)
          clear hK K
          try simp only [Act.put, List.setIfInBounds_toArray, List.set_cons_zero, List.set_cons_succ]
          refine wpAnyH_ready (rs := [11]) (by kernel_rfl) (by simp) ?_
          refine (AllReadyH.cons (o := ⟨some 37, _, _, _, _, _⟩) rfl (fun K hK => ?_) AllReadyH.nil)
          (try rw [if_pos (by rfl)])
          obtain ⟨ve, Wb, hrun, ho, hgr, hve⟩ := app_ids (n := 0) (m := N) hbX.size kE (HRP.out.old hbX) (by have := HN.out; omega)
          refine oper_appendW (.tmp 35) (.tmp 36) _ _ rfl _ _ rfl rfl _ _ hrun ?_
          rw [Nat.zero_add, List.nil_append] at ho
          obtain ⟨Av, cv, rfl, _⟩ := own_len ho
          have kO := ho
          (try have hnO := own_apart hve hne (Blk.lt kW))
          (try replace kW := Blk.grown kW hgr (fun h => hne _ h.symm rfl))
          have hbG : Below W2.heap.size _ Wb := ((Turn.refl (fun i => W2.heap.size ≤ i) _).grown hgr (fun i hi _ => (kE.lt i hi).1)).below hbX.size (fun i hi => by omega)
          replace hbX := hbX.trans hbG
          clear hrun ho hgr hve kE hbG
          try simp only [Act.put, List.setIfInBounds_toArray, List.set_cons_zero, List.set_cons_succ]
          try dsimp only
          refine hK.out _ _ (HLP.out _ (HB2.out.trans (hbX.mono HB2.out.size))) (fun hHeld => ?_)
          clear hK K
          try simp only [Act.put, List.setIfInBounds_toArray, List.set_cons_zero, List.set_cons_succ]
          refine wpAnyH_take (i := 12) (oi := ⟨some 38, _, _, _, _, _⟩) (v := (.agg (wayA (a : Int) (q : Int) x R (.slice Av N cv)))) rfl (by kernel_rfl) (by kernel_rfl) (by kernel_rfl) (fun _ _ _ h => h) (yieldsIf_build (by rfl) 26 _ rfl (wayA (a : Int) (q : Int) x R (.slice Av N cv)) (by kernel_rfl)) (by assumption) ?_
          try simp only [Act.put, List.setIfInBounds_toArray, List.set_cons_zero, List.set_cons_succ]
          refine wpAnyH_ready (rs := [14]) (by kernel_rfl) (by simp) ?_
          refine (AllReadyH.cons (o := ⟨none, _, _, _, _, _⟩) rfl (fun K hK => ?_) AllReadyH.nil)
          (try rw [if_pos (by rfl)])
          refine wp_store_row 26 _ _ rfl _ (wayA (a : Int) (q : Int) x R (.slice Av N cv)) rfl rfl 26 _ kW (by kernel_rfl) (by kernel_rfl) (by kernel_rfl) ?_
          have hbs := below_setRow hbX hgW (wayA (a : Int) (q : Int) x R (.slice Av N cv))
          have kW2 := Blk.setRow kW (wayA (a : Int) (q : Int) x R (.slice Av N cv))
          have kO2 := Turn.own (turn_setRow _ _ (wayA (a : Int) (q : Int) x R (.slice Av N cv))) kO hnO
          clear kW kO hbX
          have kW := kW2
          have kO := kO2
          have hbX := hbs
          clear kW2 kO2 hbs
          try simp only [Act.put]
          try dsimp only
          refine hK.out _ _ (HLP.out _ (HB2.out.trans (hbX.mono HB2.out.size))) (fun hHeld => ?_)
          clear hK K
          try simp only [Act.put, List.setIfInBounds_toArray, List.set_cons_zero, List.set_cons_succ]
          refine wpAnyH_done (by kernel_rfl) ?_ _
          go_wp2_with fail
          go_meet
          exact ⟨_, _, rfl, kW, hgW, kO, hnO, hbX⟩
      · (try rw [if_pos (by rfl)])
        go_simp
        first | refine alloc_gen ?_ | refine alloc_genD ?_
        intro Wa hka hba
        have kW := hka
        have hgW := hbX.size
        (try have hne := fun i hi => Nat.ne_of_lt (kE.lt i hi).2)
        (try have hnO := fun i hi => Nat.ne_of_lt (kO.lt i hi).2)
        (try replace kE := own_below kE hba)
        (try replace kO := own_below kO hba)
        replace hbX : Below W2.heap.size W2 Wa := by first | exact hbX.trans (hba.mono hbX.size) | exact hba
        clear hka hba
        try dsimp only
        refine hK.out _ _ (HLP.out _ (HB2.out.trans (hbX.mono HB2.out.size))) (fun hHeld => ?_)
        clear hK K
        try simp only [Act.put, List.setIfInBounds_toArray, List.set_cons_zero, List.set_cons_succ]
        refine wpAnyH_ready (rs := [8]) (by kernel_rfl) (by simp) ?_
        refine (AllReadyH.cons (o := ⟨some 34, _, _, _, _, _⟩) rfl (fun K hK => ?_) AllReadyH.nil)
        (try rw [if_pos (by rfl)])
        go_simp
        refine (HRT.out _ (HB2.out.trans (hbX.mono HB2.out.size))).mono ?_
        rintro e W3 ⟨rfl, hb3⟩
        (try replace kE := own_below kE hb3)
        (try replace kO := own_below kO hb3)
        (try replace kW := Blk.below kW hb3 (Blk.lt kW))
        replace hbX := hbX.trans (hb3.mono hbX.size)
        clear hb3
        try dsimp only
        refine hK.out _ _ (HLP.out _ (HB2.out.trans (hbX.mono HB2.out.size))) (fun hHeld => ?_)
        clear hK K
        try simp only [Act.put, List.setIfInBounds_toArray, List.set_cons_zero, List.set_cons_succ]
        refine wpAnyH_ready (rs := [11]) (by kernel_rfl) (by simp) ?_
        refine (AllReadyH.cons (o := ⟨some 37, _, _, _, _, _⟩) rfl (fun K hK => ?_) AllReadyH.nil)
        (try rw [if_pos (by rfl)])
        obtain ⟨ve, Wb, hrun, ho, hgr, hve⟩ := app_ids (n := 0) (m := N) hbX.size kE (HRP.out.old hbX) (by have := HN.out; omega)
        refine oper_appendW (.tmp 35) (.tmp 36) _ _ rfl _ _ rfl rfl _ _ hrun ?_
        rw [Nat.zero_add, List.nil_append] at ho
        obtain ⟨Av, cv, rfl, _⟩ := own_len ho
        have kO := ho
        (try have hnO := own_apart hve hne (Blk.lt kW))
        (try replace kW := Blk.grown kW hgr (fun h => hne _ h.symm rfl))
        have hbG : Below W2.heap.size _ Wb := ((Turn.refl (fun i => W2.heap.size ≤ i) _).grown hgr (fun i hi _ => (kE.lt i hi).1)).below hbX.size (fun i hi => by omega)
        replace hbX := hbX.trans hbG
        clear hrun ho hgr hve kE hbG
        try simp only [Act.put, List.setIfInBounds_toArray, List.set_cons_zero, List.set_cons_succ]
        try dsimp only
        refine hK.out _ _ (HLP.out _ (HB2.out.trans (hbX.mono HB2.out.size))) (fun hHeld => ?_)
        clear hK K
        try simp only [Act.put, List.setIfInBounds_toArray, List.set_cons_zero, List.set_cons_succ]
        refine wpAnyH_take (i := 12) (oi := ⟨some 38, _, _, _, _, _⟩) (v := (.agg (wayA (a : Int) (q : Int) x R (.slice Av N cv)))) rfl (by kernel_rfl) (by kernel_rfl) (by kernel_rfl) (fun _ _ _ h => h) (yieldsIf_build (by rfl) 26 _ rfl (wayA (a : Int) (q : Int) x R (.slice Av N cv)) (by kernel_rfl)) (by assumption) ?_
        try simp only [Act.put, List.setIfInBounds_toArray, List.set_cons_zero, List.set_cons_succ]
        refine wpAnyH_ready (rs := [14]) (by kernel_rfl) (by simp) ?_
        refine (AllReadyH.cons (o := ⟨none, _, _, _, _, _⟩) rfl (fun K hK => ?_) AllReadyH.nil)
        (try rw [if_pos (by rfl)])
        refine wp_store_row 26 _ _ rfl _ (wayA (a : Int) (q : Int) x R (.slice Av N cv)) rfl rfl 26 _ kW (by kernel_rfl) (by kernel_rfl) (by kernel_rfl) ?_
        have hbs := below_setRow hbX hgW (wayA (a : Int) (q : Int) x R (.slice Av N cv))
        have kW2 := Blk.setRow kW (wayA (a : Int) (q : Int) x R (.slice Av N cv))
        have kO2 := Turn.own (turn_setRow _ _ (wayA (a : Int) (q : Int) x R (.slice Av N cv))) kO hnO
        clear kW kO hbX
        have kW := kW2
        have kO := kO2
        have hbX := hbs
        clear kW2 kO2 hbs
        try simp only [Act.put]
        try dsimp only
        refine hK.out _ _ (HLP.out _ (HB2.out.trans (hbX.mono HB2.out.size))) (fun hHeld => ?_)
        clear hK K
        try simp only [Act.put, List.setIfInBounds_toArray, List.set_cons_zero, List.set_cons_succ]
        refine wpAnyH_done (by kernel_rfl) ?_ _
        go_wp2_with fail
        go_meet
        exact ⟨_, _, rfl, kW, hgW, kO, hnO, hbX⟩
    · (try rw [if_pos (by rfl)])
      go_simp
      first | refine alloc_gen ?_ | refine alloc_genD ?_
      intro Wa hka hba
      have kW := hka
      have hgW := hbX.size
      (try have hne := fun i hi => Nat.ne_of_lt (kE.lt i hi).2)
      (try have hnO := fun i hi => Nat.ne_of_lt (kO.lt i hi).2)
      (try replace kE := own_below kE hba)
      (try replace kO := own_below kO hba)
      replace hbX : Below W2.heap.size W2 Wa := by first | exact hbX.trans (hba.mono hbX.size) | exact hba
      clear hka hba
      try dsimp only
      refine hK.out _ _ (HLP.out _ (HB2.out.trans (hbX.mono HB2.out.size))) (fun hHeld => ?_)
      clear hK K
      try simp only [Act.put, List.setIfInBounds_toArray, List.set_cons_zero, List.set_cons_succ]
      refine wpAnyH_ready (rs := [8, 9]) (by kernel_rfl) (by simp) ?_
      refine (AllReadyH.cons (o := ⟨some 34, _, _, _, _, _⟩) rfl (fun K hK => ?_) (AllReadyH.cons (o := ⟨some 35, _, _, _, _, _⟩) rfl (fun K hK => ?_) AllReadyH.nil))
      · (try rw [if_pos (by rfl)])
        go_simp
        refine (HRT.out _ (HB2.out.trans (hbX.mono HB2.out.size))).mono ?_
        rintro e W3 ⟨rfl, hb3⟩
        (try replace kE := own_below kE hb3)
        (try replace kO := own_below kO hb3)
        (try replace kW := Blk.below kW hb3 (Blk.lt kW))
        replace hbX := hbX.trans (hb3.mono hbX.size)
        clear hb3
        try dsimp only
        refine hK.out _ _ (HLP.out _ (HB2.out.trans (hbX.mono HB2.out.size))) (fun hHeld => ?_)
        clear hK K
        try simp only [Act.put, List.setIfInBounds_toArray, List.set_cons_zero, List.set_cons_succ]
        refine wpAnyH_ready (rs := [9]) (by kernel_rfl) (by simp) ?_
        refine (AllReadyH.cons (o := ⟨some 35, _, _, _, _, _⟩) rfl (fun K hK => ?_) AllReadyH.nil)
        (try rw [if_pos (by rfl)])
        go_simp
        first | refine alloc_gen ?_ | refine alloc_genD ?_
        intro Wa hka hba
        have kE := own_zero hbX.size hka
        (try have hne := own_zero_apart (Blk.lt kW))
        (try replace kW := Blk.below kW hba (Blk.lt kW))
        replace hbX : Below W2.heap.size W2 Wa := by first | exact hbX.trans (hba.mono hbX.size) | exact hba
        clear hka hba
        try dsimp only
        refine hK.out _ _ (HLP.out _ (HB2.out.trans (hbX.mono HB2.out.size))) (fun hHeld => ?_)
        clear hK K
        try simp only [Act.put, List.setIfInBounds_toArray, List.set_cons_zero, List.set_cons_succ]
        refine wpAnyH_ready (rs := [11]) (by kernel_rfl) (by simp) ?_
        refine (AllReadyH.cons (o := ⟨some 37, _, _, _, _, _⟩) rfl (fun K hK => ?_) AllReadyH.nil)
        (try rw [if_pos (by rfl)])
        obtain ⟨ve, Wb, hrun, ho, hgr, hve⟩ := app_ids (n := 0) (m := N) hbX.size kE (HRP.out.old hbX) (by have := HN.out; omega)
        refine oper_appendW (.tmp 35) (.tmp 36) _ _ rfl _ _ rfl rfl _ _ hrun ?_
        rw [Nat.zero_add, List.nil_append] at ho
        obtain ⟨Av, cv, rfl, _⟩ := own_len ho
        have kO := ho
        (try have hnO := own_apart hve hne (Blk.lt kW))
        (try replace kW := Blk.grown kW hgr (fun h => hne _ h.symm rfl))
        have hbG : Below W2.heap.size _ Wb := ((Turn.refl (fun i => W2.heap.size ≤ i) _).grown hgr (fun i hi _ => (kE.lt i hi).1)).below hbX.size (fun i hi => by omega)
        replace hbX := hbX.trans hbG
        clear hrun ho hgr hve kE hbG
        try simp only [Act.put, List.setIfInBounds_toArray, List.set_cons_zero, List.set_cons_succ]
        try dsimp only
        refine hK.out _ _ (HLP.out _ (HB2.out.trans (hbX.mono HB2.out.size))) (fun hHeld => ?_)
        clear hK K
        try simp only [Act.put, List.setIfInBounds_toArray, List.set_cons_zero, List.set_cons_succ]
        refine wpAnyH_take (i := 12) (oi := ⟨some 38, _, _, _, _, _⟩) (v := (.agg (wayA (a : Int) (q : Int) x R (.slice Av N cv)))) rfl (by kernel_rfl) (by kernel_rfl) (by kernel_rfl) (fun _ _ _ h => h) (yieldsIf_build (by rfl) 26 _ rfl (wayA (a : Int) (q : Int) x R (.slice Av N cv)) (by kernel_rfl)) (by assumption) ?_
        try simp only [Act.put, List.setIfInBounds_toArray, List.set_cons_zero, List.set_cons_succ]
        refine wpAnyH_ready (rs := [14]) (by kernel_rfl) (by simp) ?_
        refine (AllReadyH.cons (o := ⟨none, _, _, _, _, _⟩) rfl (fun K hK => ?_) AllReadyH.nil)
        (try rw [if_pos (by rfl)])
        refine wp_store_row 26 _ _ rfl _ (wayA (a : Int) (q : Int) x R (.slice Av N cv)) rfl rfl 26 _ kW (by kernel_rfl) (by kernel_rfl) (by kernel_rfl) ?_
        have hbs := below_setRow hbX hgW (wayA (a : Int) (q : Int) x R (.slice Av N cv))
        have kW2 := Blk.setRow kW (wayA (a : Int) (q : Int) x R (.slice Av N cv))
        have kO2 := Turn.own (turn_setRow _ _ (wayA (a : Int) (q : Int) x R (.slice Av N cv))) kO hnO
        clear kW kO hbX
        have kW := kW2
        have kO := kO2
        have hbX := hbs
        clear kW2 kO2 hbs
        try simp only [Act.put]
        try dsimp only
        refine hK.out _ _ (HLP.out _ (HB2.out.trans (hbX.mono HB2.out.size))) (fun hHeld => ?_)
        clear hK K
        try simp only [Act.put, List.setIfInBounds_toArray, List.set_cons_zero, List.set_cons_succ]
        refine wpAnyH_done (by kernel_rfl) ?_ _
        go_wp2_with fail
        go_meet
        exact ⟨_, _, rfl, kW, hgW, kO, hnO, hbX⟩
      · (try rw [if_pos (by rfl)])
        go_simp
        first | refine alloc_gen ?_ | refine alloc_genD ?_
        intro Wa hka hba
        have kE := own_zero hbX.size hka
        (try have hne := own_zero_apart (Blk.lt kW))
        (try replace kW := Blk.below kW hba (Blk.lt kW))
        replace hbX : Below W2.heap.size W2 Wa := by first | exact hbX.trans (hba.mono hbX.size) | exact hba
        clear hka hba
        try dsimp only
        refine hK.out _ _ (HLP.out _ (HB2.out.trans (hbX.mono HB2.out.size))) (fun hHeld => ?_)
        clear hK K
        try simp only [Act.put, List.setIfInBounds_toArray, List.set_cons_zero, List.set_cons_succ]
        refine wpAnyH_ready (rs := [8]) (by kernel_rfl) (by simp) ?_
        refine (AllReadyH.cons (o := ⟨some 34, _, _, _, _, _⟩) rfl (fun K hK => ?_) AllReadyH.nil)
        (try rw [if_pos (by rfl)])
        go_simp
        refine (HRT.out _ (HB2.out.trans (hbX.mono HB2.out.size))).mono ?_
        rintro e W3 ⟨rfl, hb3⟩
        (try replace kE := own_below kE hb3)
        (try replace kO := own_below kO hb3)
        (try replace kW := Blk.below kW hb3 (Blk.lt kW))
        replace hbX := hbX.trans (hb3.mono hbX.size)
        clear hb3
        try dsimp only
        refine hK.out _ _ (HLP.out _ (HB2.out.trans (hbX.mono HB2.out.size))) (fun hHeld => ?_)
        clear hK K
        try simp only [Act.put, List.setIfInBounds_toArray, List.set_cons_zero, List.set_cons_succ]
        refine wpAnyH_ready (rs := [11]) (by kernel_rfl) (by simp) ?_
        refine (AllReadyH.cons (o := ⟨some 37, _, _, _, _, _⟩) rfl (fun K hK => ?_) AllReadyH.nil)
        (try rw [if_pos (by rfl)])
        obtain ⟨ve, Wb, hrun, ho, hgr, hve⟩ := app_ids (n := 0) (m := N) hbX.size kE (HRP.out.old hbX) (by have := HN.out; omega)
        refine oper_appendW (.tmp 35) (.tmp 36) _ _ rfl _ _ rfl rfl _ _ hrun ?_
        rw [Nat.zero_add, List.nil_append] at ho
        obtain ⟨Av, cv, rfl, _⟩ := own_len ho
        have kO := ho
        (try have hnO := own_apart hve hne (Blk.lt kW))
        (try replace kW := Blk.grown kW hgr (fun h => hne _ h.symm rfl))
        have hbG : Below W2.heap.size _ Wb := ((Turn.refl (fun i => W2.heap.size ≤ i) _).grown hgr (fun i hi _ => (kE.lt i hi).1)).below hbX.size (fun i hi => by omega)
        replace hbX := hbX.trans hbG
        clear hrun ho hgr hve kE hbG
        try simp only [Act.put, List.setIfInBounds_toArray, List.set_cons_zero, List.set_cons_succ]
        try dsimp only
        refine hK.out _ _ (HLP.out _ (HB2.out.trans (hbX.mono HB2.out.size))) (fun hHeld => ?_)
        clear hK K
        try simp only [Act.put, List.setIfInBounds_toArray, List.set_cons_zero, List.set_cons_succ]
        refine wpAnyH_take (i := 12) (oi := ⟨some 38, _, _, _, _, _⟩) (v := (.agg (wayA (a : Int) (q : Int) x R (.slice Av N cv)))) rfl (by kernel_rfl) (by kernel_rfl) (by kernel_rfl) (fun _ _ _ h => h) (yieldsIf_build (by rfl) 26 _ rfl (wayA (a : Int) (q : Int) x R (.slice Av N cv)) (by kernel_rfl)) (by assumption) ?_
        try simp only [Act.put, List.setIfInBounds_toArray, List.set_cons_zero, List.set_cons_succ]
        refine wpAnyH_ready (rs := [14]) (by kernel_rfl) (by simp) ?_
        refine (AllReadyH.cons (o := ⟨none, _, _, _, _, _⟩) rfl (fun K hK => ?_) AllReadyH.nil)
        (try rw [if_pos (by rfl)])
        refine wp_store_row 26 _ _ rfl _ (wayA (a : Int) (q : Int) x R (.slice Av N cv)) rfl rfl 26 _ kW (by kernel_rfl) (by kernel_rfl) (by kernel_rfl) ?_
        have hbs := below_setRow hbX hgW (wayA (a : Int) (q : Int) x R (.slice Av N cv))
        have kW2 := Blk.setRow kW (wayA (a : Int) (q : Int) x R (.slice Av N cv))
        have kO2 := Turn.own (turn_setRow _ _ (wayA (a : Int) (q : Int) x R (.slice Av N cv))) kO hnO
        clear kW kO hbX
        have kW := kW2
        have kO := kO2
        have hbX := hbs
        clear kW2 kO2 hbs
        try simp only [Act.put]
        try dsimp only
        refine hK.out _ _ (HLP.out _ (HB2.out.trans (hbX.mono HB2.out.size))) (fun hHeld => ?_)
        clear hK K
        try simp only [Act.put, List.setIfInBounds_toArray, List.set_cons_zero, List.set_cons_succ]
        refine wpAnyH_done (by kernel_rfl) ?_ _
        go_wp2_with fail
        go_meet
        exact ⟨_, _, rfl, kW, hgW, kO, hnO, hbX⟩
  case rest =>
    obtain ⟨gW, ve, rfl, kW, hgW, kO, hnO, hbX⟩ := hcut
    obtain ⟨Av, cv, rfl, _⟩ := own_len kO
    have k5 : Blk wc w.heap.size 34 #[.int .i64 c0, .int .i64 c1] := Blk.below J5.out hbX J5.out.lt
    have c50 : wc.cell? ⟨w.heap.size, 0, none⟩ = some (.int .i64 c0) := k5.cell 0
    have c51 : wc.cell? ⟨w.heap.size, 1, none⟩ = some (.int .i64 c1) := k5.cell 1
    have HB3 := Lib.hid (HB2.out.trans (hbX.mono HB2.out.size))
    have HC := Lib.hid (And.intro kW (And.intro kO (And.intro hnO (And.intro hbX (And.intro hgW (And.intro c50 c51))))))
    clear kW kO hnO hbX hgW c50 c51 k5 HRT HLP
    have HCK : Hid (∀ a n x y v l W, Below w.heap.size w W → RdI W (fun b => b < W.heap.size) v l → Calls Tryd.prog 3 #[.agg (wayA a n x y v)] W fun e w' => e = .returned (.bool true) ∧ Below W.heap.size W w') := Lib.hid fun a n x y v l W hb h => checks_law a n x y v l W (HT.out.below hb) h
    clear HB0 HT
    by_cases e0 : c0 = 0
    · have b0 : (c0 == 0) = true := by rw [beq_iff_eq]; exact e0
      clear e0
      have cw : wc.cell? ⟨gW, 2, none⟩ = some (.int .u8 ((x 0).toNat : Int)) := by rw [HC.out.1.cell, wayA, arr_get, if_pos (by omega)]; rfl
      have fw : wc.frozen? ⟨gW, 2, none⟩ = false := HC.out.1.frozen 2
      obtain ⟨b, hb⟩ : ∃ b, x 0 ^^^ 1 = b := ⟨_, rfl⟩
      have hxo := bits_one (x 0)
      rw [hb] at hxo
      clear hb
      go_wp2_with (first
        | (guard_target = wpList _ _ _ (Oper.mk _ (.load 3 (.tmp 39)) _ _ _ _ :: _) _ _; refine wpList_load_run rfl 3 _ rfl _ (.int .i64 c1) rfl (loadVar_one Tryd.underlying3 rfl (HC.out.2.2.2.2.2.2 : _)) ?_)
        | (guard_target = wpList _ _ _ (Oper.mk _ (.load 3 (.tmp 41)) _ _ _ _ :: _) _ _; refine wpList_load_run rfl 3 _ rfl _ (.int .i64 c0) rfl (loadVar_one Tryd.underlying3 rfl (HC.out.2.2.2.2.2.1 : _)) ?_)
        | (guard_target = wpList _ _ _ (Oper.mk _ (.load 26 _) _ _ _ _ :: _) _ _; refine wpList_load_arr rfl 26 _ rfl gW rfl 26 (wayA (a : Int) (q : Int) (fun i => if i = 0 then b else x i) R (.slice Av N cv)) _ (Blk.same (Blk.store HC.out.1 2 (.int .u8 (b.toNat : Int))) (way_set2 _ _ _ _ _ _)) Tryd.underlying26 rfl (by kernel_rfl) ?_)
        | (go_at_call 3; refine (HCK.out (a : Int) (q : Int) (fun i => if i = 0 then b else x i) R (.slice Av N cv) _ _ (HB3.out.setCell (p := ⟨gW, 2, none⟩) (Nat.le_trans HB2.out.size HC.out.2.2.2.2.1) (.int .u8 (b.toNat : Int))) (own_rd_lt (Turn.own ((Turn.refl (fun i => i = gW) wc).setCell (p := ⟨gW, 2, none⟩) (fun _ => rfl) (.int .u8 (b.toNat : Int))) HC.out.2.1 HC.out.2.2.1) (by have := HN.out; omega))).mono ?_; rintro e W9 ⟨rfl, hb9⟩))
      go_ret
      exact ⟨rfl, (HB3.out.setCell (p := ⟨gW, 2, none⟩) (Nat.le_trans HB2.out.size HC.out.2.2.2.2.1) (.int .u8 (b.toNat : Int))).trans (hb9.mono (HB3.out.setCell (p := ⟨gW, 2, none⟩) (Nat.le_trans HB2.out.size HC.out.2.2.2.2.1) (.int .u8 (b.toNat : Int))).size)⟩
    by_cases e1 : c0 = 1
    · have b0 : (c0 == 0) = false := beq_eq_false_iff_ne.2 e0
      have b1 : (c0 == 1) = true := by rw [beq_iff_eq]; exact e1
      clear e0 e1
      obtain ⟨gO, cO, W7, hrun, ho7, hk7, hne7, hb7⟩ := own_more (f := nine) HC.out.2.2.2.1.size HC.out.2.1 HC.out.1 HC.out.2.2.1 HN.out
      have cw : wc.cell? ⟨gW, 66, none⟩ = some (.slice Av N cv) := (way_cells HC.out.1).2.2.2.2
      have cw7 : W7.cell? ⟨gW, 66, none⟩ = some (.slice Av N cv) := (way_cells hk7).2.2.2.2
      have fw7 : W7.frozen? ⟨gW, 66, none⟩ = false := hk7.frozen 66
      have R7 := Lib.hid hrun
      have HB7 := Lib.hid (HB2.out.trans (HC.out.2.2.2.1.trans hb7 |>.mono HB2.out.size))
      have C7 := Lib.hid (And.intro ho7 (And.intro hk7 hne7))
      clear hrun ho7 hk7 hne7 hb7
      go_wp2_with (first
        | (guard_target = wpList _ _ _ (Oper.mk _ (.load 3 (.tmp 39)) _ _ _ _ :: _) _ _; refine wpList_load_run rfl 3 _ rfl _ (.int .i64 c1) rfl (loadVar_one Tryd.underlying3 rfl (HC.out.2.2.2.2.2.2 : _)) ?_)
        | (guard_target = wpList _ _ _ (Oper.mk _ (.load 3 (.tmp 41)) _ _ _ _ :: _) _ _; refine wpList_load_run rfl 3 _ rfl _ (.int .i64 c0) rfl (loadVar_one Tryd.underlying3 rfl (HC.out.2.2.2.2.2.1 : _)) ?_)
        | (guard_target = wpList _ _ _ (Oper.mk _ (.build _ _) _ _ _ _ :: _) _ _; refine wpList_buildTo (by rfl) 23 _ rfl (arr 32 fun i => bv (nine i)) (by kernel_rfl) ?_)
        | (guard_target = wpList _ _ _ (Oper.mk _ (.buildSlice _ _ _) _ _ _ _ :: _) _ _; refine wpList_build_idW rfl _ rfl nine rfl ?_)
        | (at_builtin; refine wpList_append_run rfl (.tmp 54) (.tmp 56) _ _ rfl _ _ rfl rfl _ _ R7.out ?_)
        | (guard_target = wpList _ _ _ (Oper.mk _ (.load 26 _) _ _ _ _ :: _) _ _; refine wpList_load_arr rfl 26 _ rfl gW rfl 26 (wayA (a : Int) (q : Int) x R (.slice (some ⟨gO, 0, none⟩) (N + 1) cO)) _ (Blk.same (Blk.store C7.out.2.1 66 (.slice (some ⟨gO, 0, none⟩) (N + 1) cO)) (way_set66 _ _ _ _ _ _)) Tryd.underlying26 rfl (by kernel_rfl) ?_)
        | (go_at_call 3; refine (HCK.out (a : Int) (q : Int) x R (.slice (some ⟨gO, 0, none⟩) (N + 1) cO) _ _ (HB7.out.setCell (p := ⟨gW, 66, none⟩) (Nat.le_trans HB2.out.size HC.out.2.2.2.2.1) (.slice (some ⟨gO, 0, none⟩) (N + 1) cO)) (own_rd_lt (Turn.own ((Turn.refl (fun i => i = gW) W7).setCell (p := ⟨gW, 66, none⟩) (fun _ => rfl) (.slice (some ⟨gO, 0, none⟩) (N + 1) cO)) C7.out.1 (fun i hi => by cases hi; exact C7.out.2.2)) (by have := HN.out; omega))).mono ?_; rintro e W9 ⟨rfl, hb9⟩))
      go_ret
      exact ⟨rfl, (HB7.out.setCell (p := ⟨gW, 66, none⟩) (Nat.le_trans HB2.out.size HC.out.2.2.2.2.1) (.slice (some ⟨gO, 0, none⟩) (N + 1) cO)).trans (hb9.mono (HB7.out.setCell (p := ⟨gW, 66, none⟩) (Nat.le_trans HB2.out.size HC.out.2.2.2.2.1) (.slice (some ⟨gO, 0, none⟩) (N + 1) cO)).size)⟩
    by_cases e2 : c0 = 2
    · have b0 : (c0 == 0) = false := beq_eq_false_iff_ne.2 e0
      have b1 : (c0 == 1) = false := beq_eq_false_iff_ne.2 e1
      have b2 : (c0 == 2) = true := by rw [beq_iff_eq]; exact e2
      clear e0 e1 e2
      have cw : wc.cell? ⟨gW, 66, none⟩ = some (.slice Av N cv) := (way_cells HC.out.1).2.2.2.2
      have fw : wc.frozen? ⟨gW, 66, none⟩ = false := HC.out.1.frozen 66
      have hN40 := HN.out
      by_cases hN0 : N = 0
      · have hN1 : ¬ (0 : Int) < (N : Int) := by omega
        clear hN0 hN40
        go_wp2_with (first
          | (guard_target = wpList _ _ _ (Oper.mk _ (.load 3 (.tmp 39)) _ _ _ _ :: _) _ _; refine wpList_load_run rfl 3 _ rfl _ (.int .i64 c1) rfl (loadVar_one Tryd.underlying3 rfl (HC.out.2.2.2.2.2.2 : _)) ?_)
          | (guard_target = wpList _ _ _ (Oper.mk _ (.load 3 (.tmp 41)) _ _ _ _ :: _) _ _; refine wpList_load_run rfl 3 _ rfl _ (.int .i64 c0) rfl (loadVar_one Tryd.underlying3 rfl (HC.out.2.2.2.2.2.1 : _)) ?_)
          | (guard_target = wpList _ _ _ (Oper.mk _ (.load 26 _) _ _ _ _ :: _) _ _; refine wpList_load_arr rfl 26 _ rfl gW rfl 26 (wayA (a : Int) (q : Int) x R (.slice Av N cv)) _ HC.out.1 Tryd.underlying26 rfl (by kernel_rfl) ?_)
          | (go_at_call 3; refine (HCK.out (a : Int) (q : Int) x R (.slice Av N cv) _ wc HB3.out (own_rd_lt HC.out.2.1 (by have := HN.out; omega))).mono ?_; rintro e W9 ⟨rfl, hb9⟩))
        go_ret
        exact ⟨rfl, HB3.out.trans (hb9.mono HB3.out.size)⟩
      · obtain ⟨p, hp⟩ : ∃ p, N = p + 1 := ⟨N - 1, by omega⟩
        have hN1 : (0 : Int) < (N : Int) := by omega
        have hp1 : (N : Int) - 1 = (p : Int) := by omega
        have hNi : (N : Int) ≤ 40 := by omega
        have hpi : (p : Int) ≤ 40 := by omega
        have hp0 : (0 : Int) ≤ (p : Int) := by omega
        have hpN : (p : Int) < (N : Int) := by omega
        have HP : Hid (p ≤ N) := Lib.hid (by omega)
        have hsl : ∀ W, (Instr.sliceAt 24 (.slice Av N cv) none (some (.int .i64 (p : Int))) none).run Tryd.prog W = .ok (.slice Av p cv) W := fun W => run_slice_toN (P := Tryd.prog) 24 23 Tryd.underlying24 32 (by kernel_rfl) Av N cv p (by have := own_cap HC.out.2.1; omega) W
        clear hN0 hN40 hp
        go_wp2_with (first
          | (guard_target = wpList _ _ _ (Oper.mk _ (.load 3 (.tmp 39)) _ _ _ _ :: _) _ _; refine wpList_load_run rfl 3 _ rfl _ (.int .i64 c1) rfl (loadVar_one Tryd.underlying3 rfl (HC.out.2.2.2.2.2.2 : _)) ?_)
          | (guard_target = wpList _ _ _ (Oper.mk _ (.load 3 (.tmp 41)) _ _ _ _ :: _) _ _; refine wpList_load_run rfl 3 _ rfl _ (.int .i64 c0) rfl (loadVar_one Tryd.underlying3 rfl (HC.out.2.2.2.2.2.1 : _)) ?_)
          | (guard_target = wpList _ _ _ (Oper.mk _ (.load 26 _) _ _ _ _ :: _) _ _; refine wpList_load_arr rfl 26 _ rfl gW rfl 26 (wayA (a : Int) (q : Int) x R (.slice Av p cv)) _ (Blk.same (Blk.store HC.out.1 66 (.slice Av p cv)) (way_set66 _ _ _ _ _ _)) Tryd.underlying26 rfl (by kernel_rfl) ?_)
          | (go_at_call 3; refine (HCK.out (a : Int) (q : Int) x R (.slice Av p cv) _ _ (HB3.out.setCell (p := ⟨gW, 66, none⟩) (Nat.le_trans HB2.out.size HC.out.2.2.2.2.1) (.slice Av p cv)) ((own_rd_lt (Turn.own ((Turn.refl (fun i => i = gW) wc).setCell (p := ⟨gW, 66, none⟩) (fun _ => rfl) (.slice Av p cv)) HC.out.2.1 HC.out.2.2.1) (by have := HN.out; omega)).take (k := p) HP.out)).mono ?_; rintro e W9 ⟨rfl, hb9⟩))
        go_ret
        exact ⟨rfl, (HB3.out.setCell (p := ⟨gW, 66, none⟩) (Nat.le_trans HB2.out.size HC.out.2.2.2.2.1) (.slice Av p cv)).trans (hb9.mono (HB3.out.setCell (p := ⟨gW, 66, none⟩) (Nat.le_trans HB2.out.size HC.out.2.2.2.2.1) (.slice Av p cv)).size)⟩
    by_cases e3 : c0 = 3
    · have b0 : (c0 == 0) = false := beq_eq_false_iff_ne.2 e0
      have b1 : (c0 == 1) = false := beq_eq_false_iff_ne.2 e1
      have b2 : (c0 == 2) = false := beq_eq_false_iff_ne.2 e2
      have b3 : (c0 == 3) = true := by rw [beq_iff_eq]; exact e3
      clear e0 e1 e2 e3
      by_cases hk : 0 ≤ c1 ∧ c1 < (N : Int)
      · obtain ⟨k, rfl⟩ := Int.eq_ofNat_of_zero_le hk.1
        have hk0 : (0 : Int) ≤ (k : Int) := hk.1
        have hkN : (k : Int) < (N : Int) := hk.2
        obtain ⟨gO, rfl⟩ : ∃ gO, Av = some ⟨gO, 0, none⟩ := own_addr HC.out.2.1 (by omega)
        have hkN' : k < N := by omega
        obtain ⟨y, hy⟩ : ∃ y, P.getD k dz 5 = y := ⟨_, rfl⟩
        have c3 := own_cell HC.out.2.1 HN.out hkN' 5 (by omega)
        rw [hy] at c3
        have c66 : wc.cell? ⟨gW, 66, none⟩ = some (.slice (some ⟨gO, 0, none⟩) N cv) := (way_cells HC.out.1).2.2.2.2
        have HS3 := Lib.hid (And.intro c66 c3)
        have hNi : (N : Int) ≤ 40 := by have := HN.out; omega
        have hgO : gO ≠ gW := HC.out.2.2.1 gO rfl
        have hgB : w.heap.size ≤ gO := Nat.le_trans HB2.out.size (HC.out.2.1.lt gO rfl).1
        have hkN2 := Lib.hid hkN'
        obtain ⟨b, hb⟩ : ∃ b, y ^^^ 1 = b := ⟨_, rfl⟩
        have hxo := bits_one y
        rw [hb] at hxo
        clear hb hk hkN' hy c3 c66
        go_upto_region 19 with (first
          | (guard_target = wpList _ _ _ (Oper.mk _ (.load 3 (.tmp 39)) _ _ _ _ :: _) _ _; refine wpList_load_run rfl 3 _ rfl _ (.int .i64 (k : Int)) rfl (loadVar_one Tryd.underlying3 rfl (HC.out.2.2.2.2.2.2 : _)) ?_)
          | (guard_target = wpList _ _ _ (Oper.mk _ (.load 3 (.tmp 41)) _ _ _ _ :: _) _ _; refine wpList_load_run rfl 3 _ rfl _ (.int .i64 c0) rfl (loadVar_one Tryd.underlying3 rfl (HC.out.2.2.2.2.2.1 : _)) ?_)
      )
        refine wp_region_held_drew (S := fun W' => W'.cell? ⟨gW, 66, none⟩ = some (.slice (some ⟨gO, 0, none⟩) N cv)) (by kernel_rfl) ?_ (fun hHeld => ?_)
        · exact HS3.out.1
        refine wpAnyH_take (i := 0) (oi := ⟨some 81, _, _, _, _, _⟩) (v := ?_) rfl (by kernel_rfl) (by kernel_rfl) (by kernel_rfl) (fun _ _ _ h => h) (Or.inl ⟨by rfl, ?_⟩) (by assumption) ?_
        rotate_left
        · intro w hSw; (try dsimp only at hSw); go_simp; try (with_reducible rfl)
        rotate_left 0
        try simp only [Act.put, List.setIfInBounds_toArray, List.set_cons_zero, List.set_cons_succ]
        refine wpAnyH_take (i := 1) (oi := ⟨some 82, _, _, _, _, _⟩) (v := (.slice (some ⟨gO, 0, none⟩) N cv)) rfl (by kernel_rfl) (by kernel_rfl) (by kernel_rfl) (fun _ _ _ h => h) (yieldsIf_load_one (by rfl) 24 _ rfl ⟨gW, 66, none⟩ rfl _ _ (fun _ hS => hS) Tryd.underlying24 rfl) (by assumption) ?_
        try simp only [Act.put, List.setIfInBounds_toArray, List.set_cons_zero, List.set_cons_succ]
        refine wpAnyH_take (i := 2) (oi := ⟨some 83, _, _, _, _, _⟩) (v := ?_) rfl (by kernel_rfl) (by kernel_rfl) (by kernel_rfl) (fun _ _ _ h => h) (Or.inl ⟨by rfl, ?_⟩) (by assumption) ?_
        rotate_left
        · intro w hSw; (try dsimp only at hSw); go_simp; try (with_reducible rfl)
        rotate_left 0
        try simp only [Act.put, List.setIfInBounds_toArray, List.set_cons_zero, List.set_cons_succ]
        refine wpAnyH_take (i := 3) (oi := ⟨some 84, _, _, _, _, _⟩) (v := ?_) rfl (by kernel_rfl) (by kernel_rfl) (by kernel_rfl) (fun _ _ _ h => h) (Or.inl ⟨by rfl, ?_⟩) (by assumption) ?_
        rotate_left
        · intro w hSw; (try dsimp only at hSw); go_simp; try (with_reducible rfl)
        rotate_left 0
        try simp only [Act.put, List.setIfInBounds_toArray, List.set_cons_zero, List.set_cons_succ]
        refine wpAnyH_take (i := 4) (oi := ⟨some 85, _, _, _, _, _⟩) (v := ?_) rfl (by kernel_rfl) (by kernel_rfl) (by kernel_rfl) (fun _ _ _ h => h) (Or.inl ⟨by rfl, ?_⟩) (by assumption) ?_
        rotate_left
        · intro w hSw; (try dsimp only at hSw); go_simp; try (with_reducible rfl)
        rotate_left 0
        try simp only [Act.put, List.setIfInBounds_toArray, List.set_cons_zero, List.set_cons_succ]
        refine wpAnyH_take (i := 7) (oi := ⟨some 88, _, _, _, _, _⟩) (v := ?_) rfl (by kernel_rfl) (by kernel_rfl) (by kernel_rfl) (fun _ _ _ h => h) (Or.inl ⟨by rfl, ?_⟩) (by assumption) ?_
        rotate_left
        · intro w hSw; (try dsimp only at hSw); go_simp; try (with_reducible rfl)
        rotate_left 0
        try simp only [Act.put, List.setIfInBounds_toArray, List.set_cons_zero, List.set_cons_succ]
        refine wpAnyH_ready (rs := [5]) (by kernel_rfl) (by simp) ?_
        refine (AllReadyH.cons (o := ⟨some 86, _, _, _, _, _⟩) rfl (fun K hK => ?_) AllReadyH.nil)
        (try rw [if_pos (by rfl)])
        refine oper_load 5 _ rfl _ _ rfl (loadVar_one Tryd.underlying5 rfl (show wc.drew.cell? ⟨gO, k * 32 + 5, none⟩ = some (.int .u8 (y.toNat : Int)) from HS3.out.2)) ?_
        try simp only [Act.put, List.setIfInBounds_toArray, List.set_cons_zero, List.set_cons_succ]
        try dsimp only
        refine hK.out _ _ (by first | exact k66 | exact HS3.out.1) (fun hHeld => ?_)
        clear hK K
        try simp only [Act.put, List.setIfInBounds_toArray, List.set_cons_zero, List.set_cons_succ]
        refine wpAnyH_take (i := 6) (oi := ⟨some 87, _, _, _, _, _⟩) (v := ?_) rfl (by kernel_rfl) (by kernel_rfl) (by kernel_rfl) (fun _ _ _ h => h) (Or.inl ⟨by rfl, ?_⟩) (by assumption) ?_
        rotate_left
        · intro w hSw; (try dsimp only at hSw); go_simp; try (with_reducible rfl)
        rotate_left 0
        try simp only [Act.put, List.setIfInBounds_toArray, List.set_cons_zero, List.set_cons_succ]
        refine wpAnyH_take (i := 8) (oi := ⟨some 89, _, _, _, _, _⟩) (v := ?_) rfl (by kernel_rfl) (by kernel_rfl) (by kernel_rfl) (fun _ _ _ h => h) (Or.inl ⟨by rfl, ?_⟩) (by assumption) ?_
        rotate_left
        · intro w hSw; (try dsimp only at hSw); go_simp; try (with_reducible rfl)
        rotate_left 0
        try simp only [Act.put, List.setIfInBounds_toArray, List.set_cons_zero, List.set_cons_succ]
        refine wpAnyH_ready (rs := [9]) (by kernel_rfl) (by simp) ?_
        refine (AllReadyH.cons (o := ⟨none, _, _, _, _, _⟩) rfl (fun K hK => ?_) AllReadyH.nil)
        (try rw [if_pos (by rfl)])
        have c3 := HS3.out.2
        have f3 := own_frozen (i := k * 32 + 5) HC.out.2.1
        go_simp
        clear c3 f3
        have k66 : (wc.setCell ⟨gO, k * 32 + 5, none⟩ (.int .u8 (b.toNat : Int))).drew.cell? ⟨gW, 66, none⟩ = some (.slice (some ⟨gO, 0, none⟩) N cv) := (World.cell?_setCell_other _ _ _ _ (by intro e; injection e with e _; exact hgO e)).trans HS3.out.1
        try dsimp only
        refine hK.out _ _ (by first | exact k66 | exact HS3.out.1) (fun hHeld => ?_)
        clear hK K
        try simp only [Act.put, List.setIfInBounds_toArray, List.set_cons_zero, List.set_cons_succ]
        refine wpAnyH_done (by kernel_rfl) ?_ _
        go_wp2_with (first
          | (guard_target = wpList _ _ _ (Oper.mk _ (.load 26 _) _ _ _ _ :: _) _ _; refine wpList_load_arr rfl 26 _ rfl gW rfl 26 (wayA (a : Int) (q : Int) x R (.slice (some ⟨gO, 0, none⟩) N cv)) _ ((HC.out.1.far (p := ⟨gO, k * 32 + 5, none⟩) (Ne.symm hgO) _).drew) Tryd.underlying26 rfl (by kernel_rfl) ?_)
          | (go_at_call 3; refine (HCK.out (a : Int) (q : Int) x R (.slice (some ⟨gO, 0, none⟩) N cv) _ _ ((HB3.out.setCell (p := ⟨gO, k * 32 + 5, none⟩) hgB (.int .u8 (b.toNat : Int))).drew) (own_rd_set HC.out.2.1 HN.out hkN2.out b)).mono ?_; rintro e W9 ⟨rfl, hb9⟩))
        go_ret
        exact ⟨rfl, (HB3.out.setCell (p := ⟨gO, k * 32 + 5, none⟩) hgB (.int .u8 (b.toNat : Int))).drew.trans (hb9.mono (HB3.out.setCell (p := ⟨gO, k * 32 + 5, none⟩) hgB (.int .u8 (b.toNat : Int))).size)⟩
      
      · have hk1 : (0 : Int) ≤ c1 → ¬ c1 < (N : Int) := fun h1 h2 => hk ⟨h1, h2⟩
        by_cases hk0 : (0 : Int) ≤ c1
        · have hk2 := hk1 hk0
          clear hk hk1
          go_wp2_with (first
            | (guard_target = wpList _ _ _ (Oper.mk _ (.load 3 (.tmp 39)) _ _ _ _ :: _) _ _; refine wpList_load_run rfl 3 _ rfl _ (.int .i64 c1) rfl (loadVar_one Tryd.underlying3 rfl (HC.out.2.2.2.2.2.2 : _)) ?_)
            | (guard_target = wpList _ _ _ (Oper.mk _ (.load 3 (.tmp 41)) _ _ _ _ :: _) _ _; refine wpList_load_run rfl 3 _ rfl _ (.int .i64 c0) rfl (loadVar_one Tryd.underlying3 rfl (HC.out.2.2.2.2.2.1 : _)) ?_)
            | (guard_target = wpList _ _ _ (Oper.mk _ (.load 26 _) _ _ _ _ :: _) _ _; refine wpList_load_arr rfl 26 _ rfl gW rfl 26 (wayA (a : Int) (q : Int) x R (.slice Av N cv)) _ HC.out.1 Tryd.underlying26 rfl (by kernel_rfl) ?_)
            | (go_at_call 3; refine (HCK.out (a : Int) (q : Int) x R (.slice Av N cv) _ wc HB3.out (own_rd_lt HC.out.2.1 (by have := HN.out; omega))).mono ?_; rintro e W9 ⟨rfl, hb9⟩))
          go_ret
          exact ⟨rfl, HB3.out.trans (hb9.mono HB3.out.size)⟩
        · clear hk hk1
          go_wp2_with (first
            | (guard_target = wpList _ _ _ (Oper.mk _ (.load 3 (.tmp 39)) _ _ _ _ :: _) _ _; refine wpList_load_run rfl 3 _ rfl _ (.int .i64 c1) rfl (loadVar_one Tryd.underlying3 rfl (HC.out.2.2.2.2.2.2 : _)) ?_)
            | (guard_target = wpList _ _ _ (Oper.mk _ (.load 3 (.tmp 41)) _ _ _ _ :: _) _ _; refine wpList_load_run rfl 3 _ rfl _ (.int .i64 c0) rfl (loadVar_one Tryd.underlying3 rfl (HC.out.2.2.2.2.2.1 : _)) ?_)
            | (guard_target = wpList _ _ _ (Oper.mk _ (.load 26 _) _ _ _ _ :: _) _ _; refine wpList_load_arr rfl 26 _ rfl gW rfl 26 (wayA (a : Int) (q : Int) x R (.slice Av N cv)) _ HC.out.1 Tryd.underlying26 rfl (by kernel_rfl) ?_)
            | (go_at_call 3; refine (HCK.out (a : Int) (q : Int) x R (.slice Av N cv) _ wc HB3.out (own_rd_lt HC.out.2.1 (by have := HN.out; omega))).mono ?_; rintro e W9 ⟨rfl, hb9⟩))
          go_ret
          exact ⟨rfl, HB3.out.trans (hb9.mono HB3.out.size)⟩
    by_cases e4 : c0 = 4
    · have b0 : (c0 == 0) = false := beq_eq_false_iff_ne.2 e0
      have b1 : (c0 == 1) = false := beq_eq_false_iff_ne.2 e1
      have b2 : (c0 == 2) = false := beq_eq_false_iff_ne.2 e2
      have b3 : (c0 == 3) = false := beq_eq_false_iff_ne.2 e3
      have b4 : (c0 == 4) = true := by rw [beq_iff_eq]; exact e4
      clear e0 e1 e2 e3 e4
      have cw : wc.cell? ⟨gW, 0, none⟩ = some (.int .i64 (a : Int)) := (way_cells HC.out.1).1
      have fw : wc.frozen? ⟨gW, 0, none⟩ = false := HC.out.1.frozen 0
      go_wp2_with (first
        | (guard_target = wpList _ _ _ (Oper.mk _ (.load 3 (.tmp 39)) _ _ _ _ :: _) _ _; refine wpList_load_run rfl 3 _ rfl _ (.int .i64 c1) rfl (loadVar_one Tryd.underlying3 rfl (HC.out.2.2.2.2.2.2 : _)) ?_)
        | (guard_target = wpList _ _ _ (Oper.mk _ (.load 3 (.tmp 41)) _ _ _ _ :: _) _ _; refine wpList_load_run rfl 3 _ rfl _ (.int .i64 c0) rfl (loadVar_one Tryd.underlying3 rfl (HC.out.2.2.2.2.2.1 : _)) ?_)
        | (guard_target = wpList _ _ _ (Oper.mk _ (.load 26 _) _ _ _ _ :: _) _ _; refine wpList_load_arr rfl 26 _ rfl gW rfl 26 (wayA c1 (q : Int) x R (.slice Av N cv)) _ (Blk.same (Blk.store HC.out.1 0 (.int .i64 c1)) (way_set0 _ _ _ _ _ _)) Tryd.underlying26 rfl (by kernel_rfl) ?_)
        | (go_at_call 3; refine (HCK.out c1 (q : Int) x R (.slice Av N cv) _ _ (HB3.out.setCell (p := ⟨gW, 0, none⟩) (Nat.le_trans HB2.out.size HC.out.2.2.2.2.1) (.int .i64 c1)) (own_rd_lt (Turn.own ((Turn.refl (fun i => i = gW) wc).setCell (p := ⟨gW, 0, none⟩) (fun _ => rfl) (.int .i64 c1)) HC.out.2.1 HC.out.2.2.1) (by have := HN.out; omega))).mono ?_; rintro e W9 ⟨rfl, hb9⟩))
      go_ret
      exact ⟨rfl, (HB3.out.setCell (p := ⟨gW, 0, none⟩) (Nat.le_trans HB2.out.size HC.out.2.2.2.2.1) (.int .i64 c1)).trans (hb9.mono (HB3.out.setCell (p := ⟨gW, 0, none⟩) (Nat.le_trans HB2.out.size HC.out.2.2.2.2.1) (.int .i64 c1)).size)⟩
    by_cases e5 : c0 = 5
    · have b0 : (c0 == 0) = false := beq_eq_false_iff_ne.2 e0
      have b1 : (c0 == 1) = false := beq_eq_false_iff_ne.2 e1
      have b2 : (c0 == 2) = false := beq_eq_false_iff_ne.2 e2
      have b3 : (c0 == 3) = false := beq_eq_false_iff_ne.2 e3
      have b4 : (c0 == 4) = false := beq_eq_false_iff_ne.2 e4
      have b5 : (c0 == 5) = true := by rw [beq_iff_eq]; exact e5
      clear e0 e1 e2 e3 e4 e5
      have cw : wc.cell? ⟨gW, 1, none⟩ = some (.int .i64 (q : Int)) := (way_cells HC.out.1).2.1
      have fw : wc.frozen? ⟨gW, 1, none⟩ = false := HC.out.1.frozen 1
      go_wp2_with (first
        | (guard_target = wpList _ _ _ (Oper.mk _ (.load 3 (.tmp 39)) _ _ _ _ :: _) _ _; refine wpList_load_run rfl 3 _ rfl _ (.int .i64 c1) rfl (loadVar_one Tryd.underlying3 rfl (HC.out.2.2.2.2.2.2 : _)) ?_)
        | (guard_target = wpList _ _ _ (Oper.mk _ (.load 3 (.tmp 41)) _ _ _ _ :: _) _ _; refine wpList_load_run rfl 3 _ rfl _ (.int .i64 c0) rfl (loadVar_one Tryd.underlying3 rfl (HC.out.2.2.2.2.2.1 : _)) ?_)
        | (guard_target = wpList _ _ _ (Oper.mk _ (.load 26 _) _ _ _ _ :: _) _ _; refine wpList_load_arr rfl 26 _ rfl gW rfl 26 (wayA (a : Int) c1 x R (.slice Av N cv)) _ (Blk.same (Blk.store HC.out.1 1 (.int .i64 c1)) (way_set1 _ _ _ _ _ _)) Tryd.underlying26 rfl (by kernel_rfl) ?_)
        | (go_at_call 3; refine (HCK.out (a : Int) c1 x R (.slice Av N cv) _ _ (HB3.out.setCell (p := ⟨gW, 1, none⟩) (Nat.le_trans HB2.out.size HC.out.2.2.2.2.1) (.int .i64 c1)) (own_rd_lt (Turn.own ((Turn.refl (fun i => i = gW) wc).setCell (p := ⟨gW, 1, none⟩) (fun _ => rfl) (.int .i64 c1)) HC.out.2.1 HC.out.2.2.1) (by have := HN.out; omega))).mono ?_; rintro e W9 ⟨rfl, hb9⟩))
      go_ret
      exact ⟨rfl, (HB3.out.setCell (p := ⟨gW, 1, none⟩) (Nat.le_trans HB2.out.size HC.out.2.2.2.2.1) (.int .i64 c1)).trans (hb9.mono (HB3.out.setCell (p := ⟨gW, 1, none⟩) (Nat.le_trans HB2.out.size HC.out.2.2.2.2.1) (.int .i64 c1)).size)⟩
    have b0 : (c0 == 0) = false := beq_eq_false_iff_ne.2 e0
    have b1 : (c0 == 1) = false := beq_eq_false_iff_ne.2 e1
    have b2 : (c0 == 2) = false := beq_eq_false_iff_ne.2 e2
    have b3 : (c0 == 3) = false := beq_eq_false_iff_ne.2 e3
    have b4 : (c0 == 4) = false := beq_eq_false_iff_ne.2 e4
    have b5 : (c0 == 5) = false := beq_eq_false_iff_ne.2 e5
    clear e0 e1 e2 e3 e4 e5
    go_wp2_with (first
      | (guard_target = wpList _ _ _ (Oper.mk _ (.load 3 (.tmp 39)) _ _ _ _ :: _) _ _; refine wpList_load_run rfl 3 _ rfl _ (.int .i64 c1) rfl (loadVar_one Tryd.underlying3 rfl (HC.out.2.2.2.2.2.2 : _)) ?_)
      | (guard_target = wpList _ _ _ (Oper.mk _ (.load 3 (.tmp 41)) _ _ _ _ :: _) _ _; refine wpList_load_run rfl 3 _ rfl _ (.int .i64 c0) rfl (loadVar_one Tryd.underlying3 rfl (HC.out.2.2.2.2.2.1 : _)) ?_)
      | (guard_target = wpList _ _ _ (Oper.mk _ (.load 26 _) _ _ _ _ :: _) _ _; refine wpList_load_arr rfl 26 _ rfl gW rfl 26 (wayA (a : Int) (q : Int) x R (.slice Av N cv)) _ HC.out.1 Tryd.underlying26 rfl (by kernel_rfl) ?_)
      | (go_at_call 3; refine (HCK.out (a : Int) (q : Int) x R (.slice Av N cv) _ wc HB3.out (own_rd_lt HC.out.2.1 (by have := HN.out; omega))).mono ?_; rintro e W9 ⟨rfl, hb9⟩))
    go_ret
    exact ⟨rfl, HB3.out.trans (hb9.mono HB3.out.size)⟩
theorem wrong_law (v : Value) (l : List D) (a c0 c1 : Int) (w : World) (hT : Tables w) (hr : RdI w (fun b => b < w.heap.size) v l) :
    Calls Tryd.prog 5 #[v, .int .i64 a, .agg #[.int .i64 c0, .int .i64 c1]] w fun e w' => e = .returned (.bool true) ∧ Below w.heap.size w w' := by
  by_cases h : a < 0 ∨ ((min l.length 30 : Nat) : Int) ≤ a
  · exact wrong_range v l a c0 c1 w hT hr _ rfl h
  · obtain ⟨a', rfl⟩ := Int.eq_ofNat_of_zero_le (show 0 ≤ a by omega)
    exact wrong_in v l a' c0 c1 w hT hr _ rfl (by omega)
end Go.Proofs.YtdfgffmefonelaaDoor
