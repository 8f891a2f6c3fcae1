/-
  Layer 10: the guard 'writes': it answers true, in whatever memory in which the tables lie. No condition.
-/
import Derived.Test.YtgpbpdjamimbfaaDoorJrnMath
import Derived.Test.YtgpbpdjamimbfaaDoorKSha
namespace Go.Proofs.YtgpbpdjamimbfaaDoor
open Go Go.RowKit Go.Shelf

theorem neq_idJ (f g : Nat → UInt8) (w : World) : (binOp .neq 37 (.agg (arr 32 fun i => bv (f i))) (.agg (arr 32 fun i => bv (g i)))).run Tryd.prog w = .ok (.bool (!(id32 f == id32 g))) w := by
  have h := eql_id f g w
  generalize (id32 f == id32 g) = β at h ⊢
  generalize (arr 32 fun i => bv (f i)) = x at h ⊢
  generalize (arr 32 fun i => bv (g i)) = y at h ⊢
  rw [run_eql_struct] at h
  rw [run_neq_struct]
  generalize (Op.equalIn 10000 37 (.agg x) (.agg y)).run Tryd.prog w = r at h ⊢
  cases r with
  | ok b w' =>
    simp only [Result.andThen_ok, Result.ok.injEq, Value.bool.injEq] at h
    obtain ⟨rfl, rfl⟩ := h
    rfl
  | halt _ _ => cases h
section
variable {P : Program} {ops : Array Oper} {rest : List Oper} {o : Oper} {a : Act} {w : World} {Q : Exit → Act → World → Prop}
theorem wpList_buildGJ (hw : Region.wanted o (yielded ops a.tmps) = true) (t : TypeId) (parts : Array (Nat × Operand)) (ho : o.op = .build t parts)
    (hf : (P.built t (parts.map fun (i, x) => (i, a.eval x)).toList).isSome = true)
    (h : wpList P ops Q rest (a.put o.dst (.agg ((P.built t (parts.map fun (i, x) => (i, a.eval x)).toList).getD #[]))) w) : wpList P ops Q (o :: rest) a w :=
  wpList_step fun K hK => by
    rw [if_pos hw]
    exact wp_build t parts ho hf (hK _ _ h)
end
def oneB : List UInt8 := [111, 110, 101]
theorem one_sum : KSha.sha [114, 101, 99, 111, 114, 100, 0, 0, 0, 0, 32, 0, 0, 0, 0, 0, 0, 0, 0, 0, 0, 0, 0, 0, 0, 0, 0, 0, 0, 0, 0, 0, 0, 0, 0, 0, 0, 0, 0, 0, 0, 0, 0, 0, 0, 0, 3, 111, 110, 101] 50 = [1377479854, 3379787818, 3675320346, 265662324, 541315036, 2587775717, 2028226913, 1535326968] := by kernel_rfl
theorem one_zero : (id32 (withD zeroD oneB) == id32 zeroD) = false := by
  rw [beq_eq_false_iff_ne]
  intro h
  have e : withD zeroD oneB 0 = UInt8.ofNat 82 := by
    have := sha_known [114, 101, 99, 111, 114, 100, 0, 0, 0, 0, 32, 0, 0, 0, 0, 0, 0, 0, 0, 0, 0, 0, 0, 0, 0, 0, 0, 0, 0, 0, 0, 0, 0, 0, 0, 0, 0, 0, 0, 0, 0, 0, 0, 0, 0, 0, 3, 111, 110, 101] 50 _ rfl (by omega) (by decide) one_sum 0 (by omega)
    exact this
  have h0 := congrArg (fun l : List UInt8 => l.getD 0 0) h
  rw [show (id32 (withD zeroD oneB)).getD 0 0 = withD zeroD oneB 0 from by simp [id32]] at h0
  rw [e] at h0
  revert h0
  decide
/-- A slab that opens. -/
theorem open_some {Z : Nat → Prop} {gd : Nat} {sd sd' : SlabS} {s : JrnS} {w : World} (hT : Tables w) (hd : SlabAt w Z gd sd) (ho : openJ sd = (some s, sd', 0)) :
    Calls Tryd.prog 13 #[.pointer (some ⟨gd, 0, none⟩)] w fun e w' => ∃ g Y Z', e = .returned (.tuple #[.pointer (some ⟨g, 0, none⟩), .int .i64 0]) ∧ JrnAt w' Y g gd s ∧ SlabAt w' Z' gd sd' ∧ (∀ i, Y i → ¬ Z' i) ∧ Turn Z w w' ∧ (∀ i, Y i → w.heap.size ≤ i) ∧ ∀ i, Z' i → Z i ∨ w.heap.size ≤ i :=
  (open_any Z gd sd w hT hd).mono (by
    rintro e w' ⟨Z', p, rfl, h1, h2, h3, h4⟩
    rw [ho] at h1 h4 ⊢
    obtain ⟨g, Y, rfl, q1, q2, q3⟩ := h4
    exact ⟨g, Y, Z', rfl, q1, h1, q3, h2, q2, h3⟩)
theorem below_turn {B : Nat} {S : Nat → Prop} {w0 W W' : World} (hb : Below B w0 W) (hB : B ≤ w0.heap.size) (ht : Turn S W W') (hs : ∀ i, S i → B ≤ i) : Below B w0 W' :=
  hb.trans (ht.below (Nat.le_trans hB hb.size) (fun i hi h => by have := hs i h; omega))
theorem openJ_all (n : Nat) (l : List (List UInt8)) (sure : Nat) (p : Int) (h : ∀ d ∈ l, d.length < 16777216) : openJ ⟨n, recsT zeroD l, sure, p⟩ = (some ⟨l, lastT zeroD l, false⟩, ⟨n, recsT zeroD l, sure, p⟩, 0) := by
  unfold openJ
  rw [readJ_all l zeroD h]
  rfl
theorem decP_neg {p : Int} (h : p < 0) : decP p = p := by
  unfold decP
  rw [if_neg (by omega)]
/-- A record that fits, on a slab with power for ever. -/
theorem app_fits (n : Nat) (bs cs : List UInt8) (sure : Nat) (h : bs.length + cs.length ≤ n) : (SlabS.mk n bs sure (-1)).app cs = (⟨n, bs ++ cs, sure, -1⟩, 0) := by
  unfold SlabS.app
  rw [if_neg (show ¬ n - bs.length < cs.length by omega), if_neg (show ¬ (-1 : Int) = 0 by decide), decP_neg (show (-1 : Int) < 0 by decide)]
theorem lay_fits (n : Nat) (bs cs : List UInt8) (sure : Nat) (h : bs.length + cs.length ≤ n) : (SlabS.mk n bs sure (-1)).lay cs = (⟨n, bs ++ cs, bs.length + cs.length, -1⟩, 0) := by
  unfold SlabS.lay
  rw [app_fits n bs cs sure h, if_pos rfl]
  unfold SlabS.sync
  rw [if_neg (show ¬ (-1 : Int) = 0 by decide), decP_neg (show (-1 : Int) < 0 by decide), List.length_append]
theorem write_fits (n : Nat) (l : List (List UInt8)) (sure : Nat) (d : List UInt8) (hd : d.length ≤ 262144) (h : (recsT zeroD l).length + (35 + d.length) ≤ n) :
    writeJ ⟨l, lastT zeroD l, false⟩ ⟨n, recsT zeroD l, sure, -1⟩ d = (⟨l ++ [d], lastT zeroD (l ++ [d]), false⟩, ⟨n, recsT zeroD (l ++ [d]), (recsT zeroD (l ++ [d])).length, -1⟩, 0) := by
  unfold writeJ
  rw [if_neg (show ¬ (false = true) by decide), if_neg (show ¬ 262144 < d.length by omega), lay_fits n _ _ sure (by rw [recB_length]; exact h), if_pos rfl, lastT_snoc, recsT_snoc, List.length_append]
theorem rd_const {w W : World} (bs : List UInt8) (n : Nat) (hn : bs.length = n) (hm : n ≤ 140737488351232) (fz : Nat × Nat) (hw : w.alloc (.cells (bs.map bv).toArray 5 fz) = W) : RdB W (fun i => i = w.heap.size) (.slice (some ⟨w.heap.size, 0, none⟩) n n) bs := by
  subst hw
  refine rdB_cells (fun i hi => ?_) hn (Nat.le_refl _) hm rfl
  rw [cell_of_row _ _ _ _ _ _ (heap_alloc_new w _), List.getElem?_toArray, List.getElem?_map, List.getElem?_eq_getElem (by omega), List.getD_eq_getElem?_getD, List.getElem?_eq_getElem (by omega)]
  rfl
set_option maxRecDepth 100000 in
set_option maxHeartbeats 2000000 in
theorem writes_any (w : World) (hT : Tables w) : Calls Tryd.prog 10 #[] w fun e w' => e = .returned (.bool true) ∧ Below w.heap.size w w' := by
  have HT := Lib.hid hT
  have HNEW := Lib.hid (slabNew_any 500 (by omega) w)
  have HO1 : Hid (openJ ⟨500, [], 0, -1⟩ = (some ⟨[], zeroD, false⟩, ⟨500, [], 0, -1⟩, 0)) := Lib.hid (openJ_all 500 [] 0 (-1) (by simp))
  have HW1 : Hid (writeJ ⟨[], zeroD, false⟩ ⟨500, [], 0, -1⟩ oneB = (⟨[oneB], withD zeroD oneB, false⟩, ⟨500, recsT zeroD [oneB], (recsT zeroD [oneB]).length, -1⟩, 0)) := Lib.hid (write_fits 500 [] 0 oneB (by decide) (by decide))
  have HO2 : Hid (openJ ⟨500, recsT zeroD [oneB], (recsT zeroD [oneB]).length, -1⟩ = (some ⟨[oneB], withD zeroD oneB, false⟩, ⟨500, recsT zeroD [oneB], (recsT zeroD [oneB]).length, -1⟩, 0)) := Lib.hid (openJ_all 500 [oneB] _ (-1) (by simp [oneB]))
  have HZ := Lib.hid one_zero
  obtain ⟨sd0, hs0⟩ : ∃ sd0, SlabS.mk 500 [] 0 (-1) = sd0 := ⟨_, rfl⟩
  obtain ⟨sd1, hs1⟩ : ∃ sd1, SlabS.mk 500 (recsT zeroD [oneB]) (recsT zeroD [oneB]).length (-1) = sd1 := ⟨_, rfl⟩
  obtain ⟨f, hf⟩ : ∃ f, withD zeroD oneB = f := ⟨_, rfl⟩
  rw [hs0] at HNEW HO1 HW1
  rw [hs1] at HW1 HO2
  rw [hf] at HW1 HO2 HZ
  have kc := fun (W : World) (C : Array Value) (n c : Nat) => Go.Lib.run_convert_bytes_const (P := Tryd.prog) W 42 5 C n c Tryd.underlying42 Tryd.underlying5
  clear hT hs0 hs1 hf
  go_enter Tryd.func10, Tryd.ntmps10
  go_wp2_with (first
    | (go_at_call 11; refine HNEW.out.mono ?_; rintro e W1 ⟨rfl, hd1, hb1⟩)
    | (go_at_call 13; refine (open_some (HT.out.below hb1) hd1 HO1.out).mono ?_; rintro e W2 ⟨g, Y2, Z2, rfl, hj2, hd2, hyz2, ht2, hy2, hz2⟩))
  generalize hW : World.alloc W2 _ = W3
  have hrd := rd_const (w := W2) (W := W3) oneB 3 rfl (by omega) _ hW
  have hb3 : Below W2.heap.size W2 W3 := by rw [← hW]; exact (Below.refl _ _).alloc (Nat.le_refl _) _
  have hlt : W2.heap.size < W3.heap.size := by rw [← hW]; simp
  have hb02 : Below w.heap.size w W2 := below_turn hb1 (Nat.le_refl _) ht2 (fun i hi => by rw [hi]; exact Nat.le_refl _)
  have hb03 := hb02.trans (hb3.mono hb02.size)
  have hZ2 : ∀ i, Z2 i → i < W2.heap.size := by obtain ⟨_, _, _, _, _, hlt, _⟩ := hd2; exact hlt
  have HWR := Lib.hid (write_any Y2 Z2 g w.heap.size ⟨[], zeroD, false⟩ sd0 _ 3 3 oneB W3 (HT.out.below hb03) (hj2.below hb3) (hd2.below hb3) hyz2 (by simp) (hrd.mono fun i hi => ⟨by rw [hi]; exact hlt, fun hz => by have := hZ2 i hz; omega⟩))
  rw [HW1.out] at HWR
  have HYZ : Hid (∀ i, Y2 i ∨ Z2 i → w.heap.size ≤ i) := Lib.hid fun i hi => by
    rcases hi with hi | hi
    · exact Nat.le_trans hb1.size (hy2 i hi)
    · rcases hz2 i hi with h | h
      · rw [h]; exact Nat.le_refl _
      · exact Nat.le_trans hb1.size h
  have HB03 := Lib.hid hb03
  have hstr : ∀ w', (binOp .eql 9 (.string ⟨oneB.toArray⟩) (.string { data := #[111, 110, 101] })).run Tryd.prog w' = .ok (.bool true) w' := fun w' => eql_str oneB oneB w'
  have hsame : ∀ w', (binOp .eql 37 (.agg (arr 32 fun i => bv (f i))) (.agg (arr 32 fun i => bv (f i)))).run Tryd.prog w' = .ok (.bool true) w' := fun w' => by
    have := eql_id f f w'
    rw [beq_self_eq_true] at this
    exact this
  have hneq : ∀ w', (binOp .neq 37 (.agg (arr 32 fun i => bv (f i))) (.agg (arr 32 fun _ => bv 0))).run Tryd.prog w' = .ok (.bool true) w' := fun w' => by
    have := neq_idJ f zeroD w'
    rw [HZ.out] at this
    exact this
  have hz := built_zeroJ
  clear hW hrd hb3 hlt hb02 hb03 hZ2 hj2 hd2 hyz2 ht2 hy2 hz2 hb1 HW1 HO1 HNEW kc
  go_at_call 16
  refine HWR.out.mono ?_
  rintro e W4 ⟨rfl, Y4, Z4, hj4, hd4, hyz4, ht4, hy4, hz4⟩
  have hb04 : Below w.heap.size w W4 := below_turn HB03.out (Nat.le_refl _) ht4 HYZ.out
  have HOP := Lib.hid (open_some (HT.out.below hb04) hd4 HO2.out)
  have HZ4 : Hid (∀ i, Z4 i → w.heap.size ≤ i) := Lib.hid fun i hi => by
    rcases hz4 i hi with h | h
    · exact HYZ.out i (.inr h)
    · exact Nat.le_trans HB03.out.size h
  have HB04 := Lib.hid hb04
  have HJ4 := Lib.hid hj4
  have HYZ4 := Lib.hid hyz4
  clear hj4 hd4 hyz4 ht4 hy4 hz4 hb04 HWR
  dsimp only
  go_wp2_with (go_at_call 13; refine HOP.out.mono ?_; rintro e W5 ⟨g5, Y5, Z5, rfl, hj5, hd5, hyz5, ht5, hy5, hz5⟩)
  have HJ := Lib.hid (HJ4.out.turn ht5 HYZ4.out)
  have HB05 := Lib.hid (below_turn HB04.out (Nat.le_refl _) ht5 HZ4.out)
  have HK := Lib.hid hj5
  have HAT : Hid (Calls Tryd.prog 26 #[.pointer (some ⟨g5, 0, none⟩), .int .i64 0] W5 fun e w' => ∃ A' c', e = .returned (.tuple #[.slice A' 3 c', .int .i64 0]) ∧ RdB w' (fun b => W5.heap.size ≤ b ∧ b < w'.heap.size) (.slice A' 3 c') oneB ∧ Below W5.heap.size W5 w') := Lib.hid ((at_any Y5 g5 w.heap.size ⟨[oneB], f, false⟩ 0 (by simp) W5 hj5).mono (by
    rintro e w' ⟨A', c', rfl, h1, h2, h3⟩
    exact ⟨A', c', rfl, h1, h3⟩))
  clear hj5 hd5 hyz5 ht5 hy5 hz5 HOP HJ4
  go_wp2_with (first
    | (go_at_call 26; refine HAT.out.mono ?_; rintro e W6 ⟨A6, c6, rfl, hr6, hbX⟩; have hcs := str_rd hr6)
    | (go_at_call 24; refine (len_any Y5 g5 w.heap.size ⟨[oneB], f, false⟩ W6 (HK.out.below hbX)).mono ?_; rintro e W7 ⟨rfl, rfl⟩)
    | (go_at_call 25; refine (last_any Y5 g5 w.heap.size ⟨[oneB], f, false⟩ _ (HK.out.below hbX)).mono ?_; rintro e W8 ⟨rfl, hb8⟩; replace hbX := hbX.trans (hb8.mono hbX.size); clear hb8)
    | (go_at_call 25; refine (last_any Y4 g w.heap.size ⟨[oneB], f, false⟩ _ (HJ.out.below hbX)).mono ?_; rintro e W9 ⟨rfl, hb8⟩; replace hbX := hbX.trans (hb8.mono hbX.size); clear hb8)
    | (guard_target = wpList _ _ _ (Oper.mk _ (.build _ _) _ _ _ _ :: _) _ _; refine wpList_buildGJ (by rfl) 37 #[] rfl (by kernel_rfl) ?_; simp only [List.map_toArray, List.map_nil]; rw [hz]))
  go_ret
  exact ⟨rfl, HB05.out.trans (hbX.mono HB05.out.size)⟩
end Go.Proofs.YtgpbpdjamimbfaaDoor
