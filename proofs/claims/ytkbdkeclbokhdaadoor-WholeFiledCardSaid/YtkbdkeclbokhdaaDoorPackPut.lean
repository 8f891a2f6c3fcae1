/-
  pack.put: for each of the nine tags, any run that isn't empty: what the message's variable holds behind it, or the error's number.
-/
import Derived.Test.YtkbdkeclbokhdaaDoorPackFieldsIn
import Derived.Test.YtkbdkeclbokhdaaDoorPackReadList
import Derived.Test.YtkbdkeclbokhdaaDoorQ42
import Derived.Test.YtkbdkeclbokhdaaDoorPackReadIDs
import Derived.Test.YtkbdkeclbokhdaaDoorPackCheck
import Derived.Laws.CopyRow
namespace Go.Proofs.YtkbdkeclbokhdaaDoor
open Go Go.RowKit PackMath
attribute [local go_sem] Oper.semAt_some

section
variable {F : Fence} {n : Nat} {P : Program} {ops : Array Oper} {rest : List Oper} {o : Oper} {a : Act} {w : World} {Q : Exit → Act → World → Prop}
/-- An array stored into a part of a row. -/
theorem wpListIn_store_part (hF : ∀ f, F.fn f) (hgd : o.guard = none) (ty : TypeId) (x y : Operand) (ho : o.op = .store ty x y)
    (g off m N : Nat) (f c : Nat → Value) (hx : a.eval x = .pointer (some ⟨g, off, none⟩)) (hy : a.eval y = .agg (arr m c))
    (t : TypeId) (hg : Blk w g t (arr N f)) (hi : (P.info? ty).map (·.size) = some m) (hfit : off + m ≤ N) (h1 : ∀ j, j < m → (c j).oneCell' = true)
    (h : ∀ w', w' = w.setRow g (arr N fun i => if off ≤ i ∧ i < off + m then c (i - off) else f i) → wpListIn F n P ops Q rest (a.put o.dst undef) w') : wpListIn F n P ops Q (o :: rest) a w := by
  refine wpListIn_plain hgd fun K hK => ?_
  unfold Oper.wpIn
  refine ⟨fun f _ => hF f, ?_⟩
  rw [Oper.semAt_plain F _ _ (by rw [ho]; intro c hc; cases hc)]
  have hl : (arr m c).toList = (List.range m).map c := by rw [arr_list]
  have hst := run_storeCells_at (P := P) g off t ((List.range m).map c) 0 (arr N f) w hg (by rw [List.length_map, List.length_range, arr_size]; omega) (fun v hv => by
    simp only [List.mem_map, List.mem_range] at hv
    obtain ⟨j, hj, rfl⟩ := hv
    exact h1 j hj)
  rw [List.append_assoc, Nat.add_zero, List.length_map, List.length_range, splice_arr N off m f c hfit] at hst
  cases hq : P.info? ty with
  | none => simp [hq] at hi
  | some i =>
    have hs : m = i.size := by simp [hq] at hi; omega
    have hsz : (arr m c).size = i.size := by rw [arr_size, hs]
    have := hK _ _ (h _ rfl)
    simp [execOp, ho, hx, hy, Instr.storeAt, Instr.sureAddr, Sem.run_bind, storeVar, sizeOf, typeInfo, hq, Value.cells, hsz, hl, hst, Result.andThen]
    exact this
end
theorem set_row (f : Nat → Value) (N k : Nat) (v : Value) (_hk : k < N) : (arr N f).setIfInBounds k v = arr N fun i => if i = k then v else f i := by
  apply Array.ext
  · simp [arr_size]
  · intro i h1 h2
    simp only [Array.size_setIfInBounds, arr_size] at h1
    have e1 := arr_get N (fun i => if i = k then v else f i) i
    have e2 := arr_get N f i
    rw [if_pos h1] at e1 e2
    rw [Array.getElem?_eq_getElem (by rw [arr_size]; exact h1)] at e1 e2
    injection e1 with e1
    injection e2 with e2
    rw [e1, Array.getElem_setIfInBounds, e2]
    by_cases h : k = i
    · subst h; simp
    · rw [if_neg h, if_neg (fun e => h e.symm)]
    · rw [arr_size]; exact h1
/-- New memory. -/
abbrev fresh (w w' : World) : Nat → Prop := fun b => w.heap.size ≤ b ∧ b < w'.heap.size
theorem grown_cell (w : World) (g k : Nat) (v : Value) : w.grownBy (w.setCell ⟨g, k, none⟩ v) (some g) := ⟨rfl, rfl, rfl, by simp [World.setCell], fun b _ hne => Below.heap_setCell _ _ _ _ (by rintro rfl; exact hne rfl)⟩
theorem grown_row (w : World) (g : Nat) (cs : Array Value) : w.grownBy (w.setRow g cs) (some g) := ⟨(below_setRow (Below.refl 0 w) (Nat.zero_le g) cs).os, (below_setRow (Below.refl 0 w) (Nat.zero_le g) cs).tape, (below_setRow (Below.refl 0 w) (Nat.zero_le g) cs).output, by rw [size_setRow]; exact Nat.le_refl _, fun b _ hne => setRow_other _ _ _ _ (by rintro rfl; exact hne rfl)⟩
set_option maxRecDepth 100000 in
set_option maxHeartbeats 2000000 in
theorem put_1 (g : Nat) (F : Nat → Value) (A : Option Addr) (c : Nat) (bs : List UInt8) (hne : bs ≠ []) (w : World) (hg : Blk w g 69 (arr 41 F)) (hr : RdB w (fun b => b < w.heap.size) (.slice A bs.length c) bs) :
    CallsIn Fence.wide 0 Tryd.prog 68 #[.pointer (some ⟨g, 0, none⟩), .agg #[.int .i64 1, .slice A bs.length c, .bool true]] w fun e w' => w.grownBy w' (some g) ∧ (number bs = none → e = .returned (.int .i64 23)) ∧ (∀ n, number bs = some n → e = .returned (.int .i64 0) ∧ Blk w' g 69 (arr 41 fun i => if i = 1 then .int .i64 (n : Int) else F i)) := by
  obtain ⟨n, hn⟩ : ∃ n, bs.length = n := ⟨_, rfl⟩
  have hgl := hg.lt
  have k1 : Blk (w.alloc (.cells #[.int .i64 1, .slice A n c, .bool true] 122)) g 69 (arr 41 F) := hg.alloc _
  have hb1 : Below w.heap.size w (w.alloc (.cells #[.int .i64 1, .slice A n c, .bool true] 122)) := (Below.refl _ _).alloc (Nat.le_refl _) _
  have hG1 : w.grownBy (w.alloc (.cells #[.int .i64 1, .slice A n c, .bool true] 122)) (some g) := grown_alloc _ _ _
  have hr1 : RdB (w.alloc (.cells #[.int .i64 1, .slice A n c, .bool true] 122)) (fun b => b < w.heap.size) (.slice A bs.length c) bs := hr.kept fun a x ha h => (hb1.cell (p := a) ha).trans h
  have HC := Lib.hid (readNumber_any A c bs hne _ _ hr1)
  rw [hn] at HC ⊢
  rw [hn] at hr1
  have kc : (w.alloc (.cells #[.int .i64 1, .slice A n c, .bool true] 122)).cell? ⟨g, 1, none⟩ = some (F 1) := by rw [k1.cell, arr_get]; rfl
  have kf := k1.frozen 1
  have HP : Hid (∀ v, w.grownBy ((w.alloc (.cells #[.int .i64 1, .slice A n c, .bool true] 122)).setCell ⟨g, 1, none⟩ v) (some g) ∧ Blk ((w.alloc (.cells #[.int .i64 1, .slice A n c, .bool true] 122)).setCell ⟨g, 1, none⟩ v) g 69 (arr 41 fun i => if i = 1 then v else F i)) := Lib.hid fun v => ⟨grown_trans hG1 (grown_cell _ _ _ _) (.inl rfl), (k1.store 1 v).same (set_row F 41 1 v (by omega))⟩
  clear hg hr k1 hb1 hG1 hr1 hgl hn
  cases hnum : number bs with
  | none =>
    refine callsIn_of_wp Tryd.func68 rfl trivial ?_ rfl
    simp only [Tryd.ntmps68, List.size_toArray, List.length_cons, List.length_nil, Nat.reduceAdd, Nat.reduceSub, Array.replicate_succ, Array.replicate_zero, List.push_toArray, List.append_toArray, List.nil_append, List.cons_append]
    gi_wp2_with (refine ⟨trivial, rfl, ?_⟩; gi_at_call 76; refine (callsIn_wide.2 HC.out).mono ?_; rintro e w1 ⟨hout, rfl⟩; unfold NumOut at hout; rw [hnum] at hout; subst hout)
    go_ret
    exact ⟨(HP.out _).1, fun _ => rfl, fun n h => by cases h⟩
  | some m =>
    refine callsIn_of_wp Tryd.func68 rfl trivial ?_ rfl
    simp only [Tryd.ntmps68, List.size_toArray, List.length_cons, List.length_nil, Nat.reduceAdd, Nat.reduceSub, Array.replicate_succ, Array.replicate_zero, List.push_toArray, List.append_toArray, List.nil_append, List.cons_append]
    gi_wp2_with (refine ⟨trivial, rfl, ?_⟩; gi_at_call 76; refine (callsIn_wide.2 HC.out).mono ?_; rintro e w1 ⟨hout, rfl⟩; unfold NumOut at hout; rw [hnum] at hout; subst hout)
    go_ret
    exact ⟨(HP.out _).1, (fun h => by cases h), fun n h => by cases h; exact ⟨rfl, (HP.out _).2⟩⟩
set_option maxRecDepth 100000 in
set_option maxHeartbeats 2000000 in
theorem put_2 (g : Nat) (F : Nat → Value) (A : Option Addr) (c : Nat) (bs : List UInt8) (hne : bs ≠ []) (w : World) (hg : Blk w g 69 (arr 41 F)) (hr : RdB w (fun b => b < w.heap.size) (.slice A bs.length c) bs) :
    CallsIn Fence.wide 0 Tryd.prog 68 #[.pointer (some ⟨g, 0, none⟩), .agg #[.int .i64 2, .slice A bs.length c, .bool true]] w fun e w' => w.grownBy w' (some g) ∧ (number bs = none → e = .returned (.int .i64 23)) ∧ (∀ n, number bs = some n → e = .returned (.int .i64 0) ∧ Blk w' g 69 (arr 41 fun i => if i = 2 then .int .i64 (n : Int) else F i)) := by
  obtain ⟨n, hn⟩ : ∃ n, bs.length = n := ⟨_, rfl⟩
  have hgl := hg.lt
  have k1 : Blk (w.alloc (.cells #[.int .i64 2, .slice A n c, .bool true] 122)) g 69 (arr 41 F) := hg.alloc _
  have hb1 : Below w.heap.size w (w.alloc (.cells #[.int .i64 2, .slice A n c, .bool true] 122)) := (Below.refl _ _).alloc (Nat.le_refl _) _
  have hG1 : w.grownBy (w.alloc (.cells #[.int .i64 2, .slice A n c, .bool true] 122)) (some g) := grown_alloc _ _ _
  have hr1 : RdB (w.alloc (.cells #[.int .i64 2, .slice A n c, .bool true] 122)) (fun b => b < w.heap.size) (.slice A bs.length c) bs := hr.kept fun a x ha h => (hb1.cell (p := a) ha).trans h
  have HC := Lib.hid (readNumber_any A c bs hne _ _ hr1)
  rw [hn] at HC ⊢
  rw [hn] at hr1
  have kc : (w.alloc (.cells #[.int .i64 2, .slice A n c, .bool true] 122)).cell? ⟨g, 2, none⟩ = some (F 2) := by rw [k1.cell, arr_get]; rfl
  have kf := k1.frozen 2
  have HP : Hid (∀ v, w.grownBy ((w.alloc (.cells #[.int .i64 2, .slice A n c, .bool true] 122)).setCell ⟨g, 2, none⟩ v) (some g) ∧ Blk ((w.alloc (.cells #[.int .i64 2, .slice A n c, .bool true] 122)).setCell ⟨g, 2, none⟩ v) g 69 (arr 41 fun i => if i = 2 then v else F i)) := Lib.hid fun v => ⟨grown_trans hG1 (grown_cell _ _ _ _) (.inl rfl), (k1.store 2 v).same (set_row F 41 2 v (by omega))⟩
  clear hg hr k1 hb1 hG1 hr1 hgl hn
  cases hnum : number bs with
  | none =>
    refine callsIn_of_wp Tryd.func68 rfl trivial ?_ rfl
    simp only [Tryd.ntmps68, List.size_toArray, List.length_cons, List.length_nil, Nat.reduceAdd, Nat.reduceSub, Array.replicate_succ, Array.replicate_zero, List.push_toArray, List.append_toArray, List.nil_append, List.cons_append]
    gi_wp2_with (refine ⟨trivial, rfl, ?_⟩; gi_at_call 76; refine (callsIn_wide.2 HC.out).mono ?_; rintro e w1 ⟨hout, rfl⟩; unfold NumOut at hout; rw [hnum] at hout; subst hout)
    go_ret
    exact ⟨(HP.out _).1, fun _ => rfl, fun n h => by cases h⟩
  | some m =>
    refine callsIn_of_wp Tryd.func68 rfl trivial ?_ rfl
    simp only [Tryd.ntmps68, List.size_toArray, List.length_cons, List.length_nil, Nat.reduceAdd, Nat.reduceSub, Array.replicate_succ, Array.replicate_zero, List.push_toArray, List.append_toArray, List.nil_append, List.cons_append]
    gi_wp2_with (refine ⟨trivial, rfl, ?_⟩; gi_at_call 76; refine (callsIn_wide.2 HC.out).mono ?_; rintro e w1 ⟨hout, rfl⟩; unfold NumOut at hout; rw [hnum] at hout; subst hout)
    go_ret
    exact ⟨(HP.out _).1, (fun h => by cases h), fun n h => by cases h; exact ⟨rfl, (HP.out _).2⟩⟩
set_option maxRecDepth 100000 in
set_option maxHeartbeats 2000000 in
theorem put_3 (g : Nat) (F : Nat → Value) (A : Option Addr) (c : Nat) (bs : List UInt8) (hne : bs ≠ []) (w : World) (hg : Blk w g 69 (arr 41 F)) (hr : RdB w (fun b => b < w.heap.size) (.slice A bs.length c) bs) :
    CallsIn Fence.wide 0 Tryd.prog 68 #[.pointer (some ⟨g, 0, none⟩), .agg #[.int .i64 3, .slice A bs.length c, .bool true]] w fun e w' => w.grownBy w' (some g) ∧ (number bs = none → e = .returned (.int .i64 23)) ∧ (∀ n, number bs = some n → e = .returned (.int .i64 0) ∧ Blk w' g 69 (arr 41 fun i => if i = 3 then .int .i64 (n : Int) else F i)) := by
  obtain ⟨n, hn⟩ : ∃ n, bs.length = n := ⟨_, rfl⟩
  have hgl := hg.lt
  have k1 : Blk (w.alloc (.cells #[.int .i64 3, .slice A n c, .bool true] 122)) g 69 (arr 41 F) := hg.alloc _
  have hb1 : Below w.heap.size w (w.alloc (.cells #[.int .i64 3, .slice A n c, .bool true] 122)) := (Below.refl _ _).alloc (Nat.le_refl _) _
  have hG1 : w.grownBy (w.alloc (.cells #[.int .i64 3, .slice A n c, .bool true] 122)) (some g) := grown_alloc _ _ _
  have hr1 : RdB (w.alloc (.cells #[.int .i64 3, .slice A n c, .bool true] 122)) (fun b => b < w.heap.size) (.slice A bs.length c) bs := hr.kept fun a x ha h => (hb1.cell (p := a) ha).trans h
  have HC := Lib.hid (readNumber_any A c bs hne _ _ hr1)
  rw [hn] at HC ⊢
  rw [hn] at hr1
  have kc : (w.alloc (.cells #[.int .i64 3, .slice A n c, .bool true] 122)).cell? ⟨g, 3, none⟩ = some (F 3) := by rw [k1.cell, arr_get]; rfl
  have kf := k1.frozen 3
  have HP : Hid (∀ v, w.grownBy ((w.alloc (.cells #[.int .i64 3, .slice A n c, .bool true] 122)).setCell ⟨g, 3, none⟩ v) (some g) ∧ Blk ((w.alloc (.cells #[.int .i64 3, .slice A n c, .bool true] 122)).setCell ⟨g, 3, none⟩ v) g 69 (arr 41 fun i => if i = 3 then v else F i)) := Lib.hid fun v => ⟨grown_trans hG1 (grown_cell _ _ _ _) (.inl rfl), (k1.store 3 v).same (set_row F 41 3 v (by omega))⟩
  clear hg hr k1 hb1 hG1 hr1 hgl hn
  cases hnum : number bs with
  | none =>
    refine callsIn_of_wp Tryd.func68 rfl trivial ?_ rfl
    simp only [Tryd.ntmps68, List.size_toArray, List.length_cons, List.length_nil, Nat.reduceAdd, Nat.reduceSub, Array.replicate_succ, Array.replicate_zero, List.push_toArray, List.append_toArray, List.nil_append, List.cons_append]
    gi_wp2_with (refine ⟨trivial, rfl, ?_⟩; gi_at_call 76; refine (callsIn_wide.2 HC.out).mono ?_; rintro e w1 ⟨hout, rfl⟩; unfold NumOut at hout; rw [hnum] at hout; subst hout)
    go_ret
    exact ⟨(HP.out _).1, fun _ => rfl, fun n h => by cases h⟩
  | some m =>
    refine callsIn_of_wp Tryd.func68 rfl trivial ?_ rfl
    simp only [Tryd.ntmps68, List.size_toArray, List.length_cons, List.length_nil, Nat.reduceAdd, Nat.reduceSub, Array.replicate_succ, Array.replicate_zero, List.push_toArray, List.append_toArray, List.nil_append, List.cons_append]
    gi_wp2_with (refine ⟨trivial, rfl, ?_⟩; gi_at_call 76; refine (callsIn_wide.2 HC.out).mono ?_; rintro e w1 ⟨hout, rfl⟩; unfold NumOut at hout; rw [hnum] at hout; subst hout)
    go_ret
    exact ⟨(HP.out _).1, (fun h => by cases h), fun n h => by cases h; exact ⟨rfl, (HP.out _).2⟩⟩
set_option maxRecDepth 100000 in
set_option maxHeartbeats 2000000 in
theorem put_4 (g : Nat) (F : Nat → Value) (A : Option Addr) (c : Nat) (bs : List UInt8) (hne : bs ≠ []) (w : World) (hg : Blk w g 69 (arr 41 F)) (hr : RdB w (fun b => b < w.heap.size) (.slice A bs.length c) bs) :
    CallsIn Fence.wide 0 Tryd.prog 68 #[.pointer (some ⟨g, 0, none⟩), .agg #[.int .i64 4, .slice A bs.length c, .bool true]] w fun e w' => w.grownBy w' (some g) ∧ (number bs = none → e = .returned (.int .i64 23)) ∧ (∀ n, number bs = some n → e = .returned (.int .i64 0) ∧ Blk w' g 69 (arr 41 fun i => if i = 4 then .int .i64 (n : Int) else F i)) := by
  obtain ⟨n, hn⟩ : ∃ n, bs.length = n := ⟨_, rfl⟩
  have hgl := hg.lt
  have k1 : Blk (w.alloc (.cells #[.int .i64 4, .slice A n c, .bool true] 122)) g 69 (arr 41 F) := hg.alloc _
  have hb1 : Below w.heap.size w (w.alloc (.cells #[.int .i64 4, .slice A n c, .bool true] 122)) := (Below.refl _ _).alloc (Nat.le_refl _) _
  have hG1 : w.grownBy (w.alloc (.cells #[.int .i64 4, .slice A n c, .bool true] 122)) (some g) := grown_alloc _ _ _
  have hr1 : RdB (w.alloc (.cells #[.int .i64 4, .slice A n c, .bool true] 122)) (fun b => b < w.heap.size) (.slice A bs.length c) bs := hr.kept fun a x ha h => (hb1.cell (p := a) ha).trans h
  have HC := Lib.hid (readNumber_any A c bs hne _ _ hr1)
  rw [hn] at HC ⊢
  rw [hn] at hr1
  have kc : (w.alloc (.cells #[.int .i64 4, .slice A n c, .bool true] 122)).cell? ⟨g, 4, none⟩ = some (F 4) := by rw [k1.cell, arr_get]; rfl
  have kf := k1.frozen 4
  have HP : Hid (∀ v, w.grownBy ((w.alloc (.cells #[.int .i64 4, .slice A n c, .bool true] 122)).setCell ⟨g, 4, none⟩ v) (some g) ∧ Blk ((w.alloc (.cells #[.int .i64 4, .slice A n c, .bool true] 122)).setCell ⟨g, 4, none⟩ v) g 69 (arr 41 fun i => if i = 4 then v else F i)) := Lib.hid fun v => ⟨grown_trans hG1 (grown_cell _ _ _ _) (.inl rfl), (k1.store 4 v).same (set_row F 41 4 v (by omega))⟩
  clear hg hr k1 hb1 hG1 hr1 hgl hn
  cases hnum : number bs with
  | none =>
    refine callsIn_of_wp Tryd.func68 rfl trivial ?_ rfl
    simp only [Tryd.ntmps68, List.size_toArray, List.length_cons, List.length_nil, Nat.reduceAdd, Nat.reduceSub, Array.replicate_succ, Array.replicate_zero, List.push_toArray, List.append_toArray, List.nil_append, List.cons_append]
    gi_wp2_with (refine ⟨trivial, rfl, ?_⟩; gi_at_call 76; refine (callsIn_wide.2 HC.out).mono ?_; rintro e w1 ⟨hout, rfl⟩; unfold NumOut at hout; rw [hnum] at hout; subst hout)
    go_ret
    exact ⟨(HP.out _).1, fun _ => rfl, fun n h => by cases h⟩
  | some m =>
    refine callsIn_of_wp Tryd.func68 rfl trivial ?_ rfl
    simp only [Tryd.ntmps68, List.size_toArray, List.length_cons, List.length_nil, Nat.reduceAdd, Nat.reduceSub, Array.replicate_succ, Array.replicate_zero, List.push_toArray, List.append_toArray, List.nil_append, List.cons_append]
    gi_wp2_with (refine ⟨trivial, rfl, ?_⟩; gi_at_call 76; refine (callsIn_wide.2 HC.out).mono ?_; rintro e w1 ⟨hout, rfl⟩; unfold NumOut at hout; rw [hnum] at hout; subst hout)
    go_ret
    exact ⟨(HP.out _).1, (fun h => by cases h), fun n h => by cases h; exact ⟨rfl, (HP.out _).2⟩⟩
set_option maxRecDepth 100000 in
set_option maxHeartbeats 2000000 in
theorem put_5 (g : Nat) (F : Nat → Value) (A : Option Addr) (c : Nat) (bs : List UInt8) (hne : bs ≠ []) (w : World) (hg : Blk w g 69 (arr 41 F)) (hr : RdB w (fun b => b < w.heap.size) (.slice A bs.length c) bs) :
    CallsIn Fence.wide 0 Tryd.prog 68 #[.pointer (some ⟨g, 0, none⟩), .agg #[.int .i64 5, .slice A bs.length c, .bool true]] w fun e w' => w.grownBy w' (some g) ∧ (number bs = none → e = .returned (.int .i64 23)) ∧ (∀ n, number bs = some n → e = .returned (.int .i64 0) ∧ Blk w' g 69 (arr 41 fun i => if i = 5 then .int .i64 (n : Int) else F i)) := by
  obtain ⟨n, hn⟩ : ∃ n, bs.length = n := ⟨_, rfl⟩
  have hgl := hg.lt
  have k1 : Blk (w.alloc (.cells #[.int .i64 5, .slice A n c, .bool true] 122)) g 69 (arr 41 F) := hg.alloc _
  have hb1 : Below w.heap.size w (w.alloc (.cells #[.int .i64 5, .slice A n c, .bool true] 122)) := (Below.refl _ _).alloc (Nat.le_refl _) _
  have hG1 : w.grownBy (w.alloc (.cells #[.int .i64 5, .slice A n c, .bool true] 122)) (some g) := grown_alloc _ _ _
  have hr1 : RdB (w.alloc (.cells #[.int .i64 5, .slice A n c, .bool true] 122)) (fun b => b < w.heap.size) (.slice A bs.length c) bs := hr.kept fun a x ha h => (hb1.cell (p := a) ha).trans h
  have HC := Lib.hid (readNumber_any A c bs hne _ _ hr1)
  rw [hn] at HC ⊢
  rw [hn] at hr1
  have kc : (w.alloc (.cells #[.int .i64 5, .slice A n c, .bool true] 122)).cell? ⟨g, 5, none⟩ = some (F 5) := by rw [k1.cell, arr_get]; rfl
  have kf := k1.frozen 5
  have HP : Hid (∀ v, w.grownBy ((w.alloc (.cells #[.int .i64 5, .slice A n c, .bool true] 122)).setCell ⟨g, 5, none⟩ v) (some g) ∧ Blk ((w.alloc (.cells #[.int .i64 5, .slice A n c, .bool true] 122)).setCell ⟨g, 5, none⟩ v) g 69 (arr 41 fun i => if i = 5 then v else F i)) := Lib.hid fun v => ⟨grown_trans hG1 (grown_cell _ _ _ _) (.inl rfl), (k1.store 5 v).same (set_row F 41 5 v (by omega))⟩
  clear hg hr k1 hb1 hG1 hr1 hgl hn
  cases hnum : number bs with
  | none =>
    refine callsIn_of_wp Tryd.func68 rfl trivial ?_ rfl
    simp only [Tryd.ntmps68, List.size_toArray, List.length_cons, List.length_nil, Nat.reduceAdd, Nat.reduceSub, Array.replicate_succ, Array.replicate_zero, List.push_toArray, List.append_toArray, List.nil_append, List.cons_append]
    gi_wp2_with (refine ⟨trivial, rfl, ?_⟩; gi_at_call 76; refine (callsIn_wide.2 HC.out).mono ?_; rintro e w1 ⟨hout, rfl⟩; unfold NumOut at hout; rw [hnum] at hout; subst hout)
    go_ret
    exact ⟨(HP.out _).1, fun _ => rfl, fun n h => by cases h⟩
  | some m =>
    refine callsIn_of_wp Tryd.func68 rfl trivial ?_ rfl
    simp only [Tryd.ntmps68, List.size_toArray, List.length_cons, List.length_nil, Nat.reduceAdd, Nat.reduceSub, Array.replicate_succ, Array.replicate_zero, List.push_toArray, List.append_toArray, List.nil_append, List.cons_append]
    gi_wp2_with (refine ⟨trivial, rfl, ?_⟩; gi_at_call 76; refine (callsIn_wide.2 HC.out).mono ?_; rintro e w1 ⟨hout, rfl⟩; unfold NumOut at hout; rw [hnum] at hout; subst hout)
    go_ret
    exact ⟨(HP.out _).1, (fun h => by cases h), fun n h => by cases h; exact ⟨rfl, (HP.out _).2⟩⟩
set_option maxRecDepth 100000 in
set_option maxHeartbeats 2000000 in
theorem put_6 (g : Nat) (F : Nat → Value) (A : Option Addr) (c : Nat) (bs : List UInt8) (w : World) (hg : Blk w g 69 (arr 41 F)) (hr : RdB w (fun b => b < w.heap.size) (.slice A bs.length c) bs) :
    CallsIn Fence.wide 0 Tryd.prog 68 #[.pointer (some ⟨g, 0, none⟩), .agg #[.int .i64 6, .slice A bs.length c, .bool true]] w fun e w' => w.grownBy w' (some g) ∧ ((bs.length ≠ 32 ∨ bs = zid) → e = .returned (.int .i64 23)) ∧ (¬ (bs.length ≠ 32 ∨ bs = zid) → e = .returned (.int .i64 0) ∧ Blk w' g 69 (arr 41 fun i => if 6 ≤ i ∧ i < 6 + 32 then bv (bs.getD (i - 6) 0) else F i)) := by
  obtain ⟨n, hn⟩ : ∃ n, bs.length = n := ⟨_, rfl⟩
  have hgl := hg.lt
  have k1 : Blk (w.alloc (.cells #[.int .i64 6, .slice A n c, .bool true] 122)) g 69 (arr 41 F) := hg.alloc _
  have hb1 : Below w.heap.size w (w.alloc (.cells #[.int .i64 6, .slice A n c, .bool true] 122)) := (Below.refl _ _).alloc (Nat.le_refl _) _
  have hG1 : w.grownBy (w.alloc (.cells #[.int .i64 6, .slice A n c, .bool true] 122)) (some g) := grown_alloc _ _ _
  have hr1 : RdB (w.alloc (.cells #[.int .i64 6, .slice A n c, .bool true] 122)) (fun b => b < w.heap.size) (.slice A bs.length c) bs := hr.kept fun a x ha h => (hb1.cell (p := a) ha).trans h
  have HC := Lib.hid (readID_any A c bs _ (hr1.mono fun b hb => by have := hb1.size; omega))
  rw [hn] at HC ⊢
  rw [hn] at hr1
  have HK := Lib.hid (And.intro k1 hG1)
  clear hg hr k1 hb1 hG1 hr1
  by_cases hz : n ≠ 32 ∨ bs = zid
  · have HO : Hid (∀ e, IDOut bs e → e = .returned (.tuple #[.agg (arr 32 fun _ => bv 0), .int .i64 23])) := Lib.hid fun e h => by unfold IDOut at h; rw [if_pos (by rw [hn]; exact hz)] at h; exact h
    clear hn
    refine callsIn_of_wp Tryd.func68 rfl trivial ?_ rfl
    simp only [Tryd.ntmps68, List.size_toArray, List.length_cons, List.length_nil, Nat.reduceAdd, Nat.reduceSub, Array.replicate_succ, Array.replicate_zero, List.push_toArray, List.append_toArray, List.nil_append, List.cons_append]
    gi_wp2_with (first
      | (refine ⟨trivial, rfl, ?_⟩; gi_at_call 77; refine (callsIn_wide.2 HC.out).mono ?_; rintro e w1 ⟨hout, hb1⟩; obtain rfl := HO.out e hout; clear hout; have hk1 := HK.out.1.below hb1 (by simp; omega))
      | (refine wpListIn_store_part (fun _ => trivial) rfl 37 _ _ rfl g 6 32 41 F (fun _ => bv 0) rfl rfl 69 hk1 (by kernel_rfl) (by omega) (fun j hj => rfl) ?_; intro w2 hw2))
    go_ret
    refine ⟨?_, fun _ => rfl, fun h => absurd hz h⟩
    exact grown_trans (grown_trans HK.out.2 (grown_below hb1 (some g)) (.inl rfl)) (grown_row _ _ _) (.inl rfl)
  · have HO : Hid (∀ e, IDOut bs e → e = .returned (.tuple #[.agg (arr 32 fun i => bv (bs.getD i 0)), .int .i64 0])) := Lib.hid fun e h => by unfold IDOut at h; rw [if_neg (by rw [hn]; exact hz)] at h; exact h
    clear hn
    obtain ⟨G, hG⟩ : ∃ G : Nat → UInt8, (fun i => bs.getD i 0) = G := ⟨_, rfl⟩
    have HG : Hid (∀ i, bs.getD i 0 = G i) := Lib.hid fun i => by rw [← hG]
    have eG : (arr 32 fun i => bv (bs.getD i 0)) = arr 32 fun i => bv (G i) := arr_congr fun i _ => by rw [HG.out i]
    rw [eG] at HO
    rw [show (arr 41 fun i => if 6 ≤ i ∧ i < 6 + 32 then bv (bs.getD (i - 6) 0) else F i) = arr 41 fun i => if 6 ≤ i ∧ i < 6 + 32 then bv (G (i - 6)) else F i from arr_congr fun i _ => by rw [HG.out]]
    clear hG eG
    refine callsIn_of_wp Tryd.func68 rfl trivial ?_ rfl
    simp only [Tryd.ntmps68, List.size_toArray, List.length_cons, List.length_nil, Nat.reduceAdd, Nat.reduceSub, Array.replicate_succ, Array.replicate_zero, List.push_toArray, List.append_toArray, List.nil_append, List.cons_append]
    gi_wp2_with (first
      | (refine ⟨trivial, rfl, ?_⟩; gi_at_call 77; refine (callsIn_wide.2 HC.out).mono ?_; rintro e w1 ⟨hout, hb1⟩; obtain rfl := HO.out e hout; clear hout; have hk1 := HK.out.1.below hb1 (by simp; omega))
      | (refine wpListIn_store_part (fun _ => trivial) rfl 37 _ _ rfl g 6 32 41 F (fun i => bv (G i)) rfl rfl 69 hk1 (by kernel_rfl) (by omega) (fun j hj => rfl) ?_; intro w2 hw2))
    go_ret
    refine ⟨?_, (fun h => absurd h hz), fun _ => ⟨rfl, ?_⟩⟩
    · exact grown_trans (grown_trans HK.out.2 (grown_below hb1 (some g)) (.inl rfl)) (grown_row _ _ _) (.inl rfl)
    · exact hk1.setRow _
set_option maxRecDepth 100000 in
set_option maxHeartbeats 2000000 in
theorem put_7 (g : Nat) (F : Nat → Value) (A : Option Addr) (c : Nat) (bs : List UInt8) (w : World) (hg : Blk w g 69 (arr 41 F)) (hr : RdB w (fun b => b < w.heap.size) (.slice A bs.length c) bs) :
    CallsIn Fence.wide 0 Tryd.prog 68 #[.pointer (some ⟨g, 0, none⟩), .agg #[.int .i64 7, .slice A bs.length c, .bool true]] w fun e w' => w.grownBy w' (some g) ∧ e = .returned (.int .i64 0) ∧ ∃ A' c', Blk w' g 69 (arr 41 fun i => if i = 38 then .slice A' bs.length c' else F i) ∧ RdB w' (fresh w w') (.slice A' bs.length c') bs := by
  obtain ⟨n, hn⟩ : ∃ n, bs.length = n := ⟨_, rfl⟩
  have hgl := hg.lt
  have k1 : Blk (w.alloc (.cells #[.int .i64 7, .slice A n c, .bool true] 122)) g 69 (arr 41 F) := hg.alloc _
  have hb1 : Below w.heap.size w (w.alloc (.cells #[.int .i64 7, .slice A n c, .bool true] 122)) := (Below.refl _ _).alloc (Nat.le_refl _) _
  have hG1 : w.grownBy (w.alloc (.cells #[.int .i64 7, .slice A n c, .bool true] 122)) (some g) := grown_alloc _ _ _
  have hr1 : RdB (w.alloc (.cells #[.int .i64 7, .slice A n c, .bool true] 122)) (fun b => b < w.heap.size) (.slice A bs.length c) bs := hr.kept fun a x ha h => (hb1.cell (p := a) ha).trans h
  have HC := Lib.hid (bclone_any A c bs _ (hr1.mono fun b hb => by have := hb1.size; omega))
  rw [hn] at HC ⊢
  rw [hn] at hr1
  have HSZ : Hid ((w.alloc (.cells #[.int .i64 7, .slice A n c, .bool true] 122)).heap.size = w.heap.size + 1) := Lib.hid (by simp)
  have HP : Hid (∀ (w1 : World), Below (w.alloc (.cells #[.int .i64 7, .slice A n c, .bool true] 122)).heap.size (w.alloc (.cells #[.int .i64 7, .slice A n c, .bool true] 122)) w1 → (w1.cell? ⟨g, 38, none⟩ = some (F 38) ∧ w1.frozen? ⟨g, 38, none⟩ = false) ∧ ∀ v, w.grownBy (w1.setCell ⟨g, 38, none⟩ v) (some g) ∧ Blk (w1.setCell ⟨g, 38, none⟩ v) g 69 (arr 41 fun i => if i = 38 then v else F i) ∧ (∀ (a : Addr) (x : Value), a.block ≠ g → w1.cell? a = some x → (w1.setCell ⟨g, 38, none⟩ v).cell? a = some x) ∧ (w1.setCell ⟨g, 38, none⟩ v).heap.size = w1.heap.size ∧ w.heap.size + 1 ≤ w1.heap.size ∧ g < w.heap.size) := Lib.hid fun w1 hb => by
    have kk := k1.below hb (by simp; omega)
    refine ⟨⟨by rw [kk.cell, arr_get]; rfl, kk.frozen 38⟩, fun v => ⟨grown_trans (grown_trans hG1 (grown_below hb (some g)) (.inl rfl)) (grown_cell _ _ _ _) (.inl rfl), (kk.store 38 v).same (set_row F 41 38 v (by omega)), fun a x ha h => (World.cell?_of_block (Below.heap_setCell _ ⟨g, 38, none⟩ _ _ ha)).trans h, by simp [World.setCell], by have := hb.size; simpa using this, hgl⟩⟩
  clear hg hr k1 hb1 hG1 hr1 hgl
  clear hn
  refine callsIn_of_wp Tryd.func68 rfl trivial ?_ rfl
  simp only [Tryd.ntmps68, List.size_toArray, List.length_cons, List.length_nil, Nat.reduceAdd, Nat.reduceSub, Array.replicate_succ, Array.replicate_zero, List.push_toArray, List.append_toArray, List.nil_append, List.cons_append]
  gi_wp2_with (refine ⟨trivial, rfl, ?_⟩; gi_at_call 78; refine (callsIn_wide.2 HC.out).mono ?_; rintro e w1 ⟨A', c', rfl, hrd, hb1⟩; obtain ⟨⟨q1, q2⟩, q3⟩ := HP.out w1 hb1; have HQ := Lib.hid q3; clear q3)
  go_ret
  obtain ⟨g1, g2, g3, g4, g5, g6⟩ := HQ.out (.slice A' n c')
  refine ⟨g1, rfl, A', c', g2, (hrd.kept fun a x ha h => g3 a x (by have := ha.1; have := HSZ.out; omega) h).mono fun b hb => ?_⟩
  have h1 := hb.1
  have h2 := hb.2
  have := HSZ.out
  exact ⟨by omega, by rw [g4]; exact h2⟩
set_option maxRecDepth 100000 in
set_option maxHeartbeats 2000000 in
theorem put_8 (g : Nat) (F : Nat → Value) (A : Option Addr) (c : Nat) (bs : List UInt8) (hlen : bs.length < 16777216) (w : World) (hg : Blk w g 69 (arr 41 F)) (hr : RdB w (fun b => b < w.heap.size) (.slice A bs.length c) bs) :
    CallsIn Fence.wide 0 Tryd.prog 68 #[.pointer (some ⟨g, 0, none⟩), .agg #[.int .i64 8, .slice A bs.length c, .bool true]] w fun e w' => w.grownBy w' (some g) ∧ (bs.length % 32 ≠ 0 → e = .returned (.int .i64 23)) ∧ (bs.length % 32 = 0 → e = .returned (.int .i64 0) ∧ ∃ g', Blk w' g 69 (arr 41 fun i => if i = 39 then .slice (some ⟨g', 0, none⟩) (bs.length / 32) (bs.length / 32) else F i) ∧ RdI w' (fresh w w') (some ⟨g', 0, none⟩) (idsOf bs)) := by
  obtain ⟨n, hn⟩ : ∃ n, bs.length = n := ⟨_, rfl⟩
  have hgl := hg.lt
  have k1 : Blk (w.alloc (.cells #[.int .i64 8, .slice A n c, .bool true] 122)) g 69 (arr 41 F) := hg.alloc _
  have hb1 : Below w.heap.size w (w.alloc (.cells #[.int .i64 8, .slice A n c, .bool true] 122)) := (Below.refl _ _).alloc (Nat.le_refl _) _
  have hG1 : w.grownBy (w.alloc (.cells #[.int .i64 8, .slice A n c, .bool true] 122)) (some g) := grown_alloc _ _ _
  have hr1 : RdB (w.alloc (.cells #[.int .i64 8, .slice A n c, .bool true] 122)) (fun b => b < w.heap.size) (.slice A bs.length c) bs := hr.kept fun a x ha h => (hb1.cell (p := a) ha).trans h
  have HC := Lib.hid (readIDs_any A c bs hlen _ (hr1.mono fun b hb => by have := hb1.size; omega))
  rw [hn] at HC ⊢
  rw [hn] at hr1
  have HSZ : Hid ((w.alloc (.cells #[.int .i64 8, .slice A n c, .bool true] 122)).heap.size = w.heap.size + 1) := Lib.hid (by simp)
  have HP : Hid (∀ (w1 : World), Below (w.alloc (.cells #[.int .i64 8, .slice A n c, .bool true] 122)).heap.size (w.alloc (.cells #[.int .i64 8, .slice A n c, .bool true] 122)) w1 → (w1.cell? ⟨g, 39, none⟩ = some (F 39) ∧ w1.frozen? ⟨g, 39, none⟩ = false) ∧ ∀ v, w.grownBy (w1.setCell ⟨g, 39, none⟩ v) (some g) ∧ Blk (w1.setCell ⟨g, 39, none⟩ v) g 69 (arr 41 fun i => if i = 39 then v else F i) ∧ (∀ (a : Addr) (x : Value), a.block ≠ g → w1.cell? a = some x → (w1.setCell ⟨g, 39, none⟩ v).cell? a = some x) ∧ (w1.setCell ⟨g, 39, none⟩ v).heap.size = w1.heap.size ∧ w.heap.size + 1 ≤ w1.heap.size ∧ g < w.heap.size) := Lib.hid fun w1 hb => by
    have kk := k1.below hb (by simp; omega)
    refine ⟨⟨by rw [kk.cell, arr_get]; rfl, kk.frozen 39⟩, fun v => ⟨grown_trans (grown_trans hG1 (grown_below hb (some g)) (.inl rfl)) (grown_cell _ _ _ _) (.inl rfl), (kk.store 39 v).same (set_row F 41 39 v (by omega)), fun a x ha h => (World.cell?_of_block (Below.heap_setCell _ ⟨g, 39, none⟩ _ _ ha)).trans h, by simp [World.setCell], by have := hb.size; simpa using this, hgl⟩⟩
  clear hg hr k1 hb1 hG1 hr1 hgl
  by_cases h32 : n % 32 = 0
  · have HO : Hid (∀ w0 e w1, IDsOut w0 bs e w1 → ∃ g', e = .returned (.tuple #[.slice (some ⟨g', 0, none⟩) (n / 32) (n / 32), .int .i64 0]) ∧ RdI w1 (fun b => w0.heap.size ≤ b ∧ b < w1.heap.size) (some ⟨g', 0, none⟩) (idsOf bs)) := Lib.hid fun w0 e w1 h => by
      unfold IDsOut at h
      rw [if_neg (by rw [hn]; omega), hn] at h
      exact h
    obtain ⟨q, hq⟩ : ∃ q, n / 32 = q := ⟨_, rfl⟩
    rw [hq] at HO ⊢
    have HN := Lib.hid h32
    clear hn hq h32
    refine callsIn_of_wp Tryd.func68 rfl trivial ?_ rfl
    simp only [Tryd.ntmps68, List.size_toArray, List.length_cons, List.length_nil, Nat.reduceAdd, Nat.reduceSub, Array.replicate_succ, Array.replicate_zero, List.push_toArray, List.append_toArray, List.nil_append, List.cons_append]
    gi_wp2_with (refine ⟨trivial, rfl, ?_⟩; gi_at_call 79; refine (callsIn_wide.2 HC.out).mono ?_; rintro e w1 ⟨hout, hb1⟩; obtain ⟨g', rfl, hrd⟩ := HO.out _ e w1 hout; clear hout; obtain ⟨⟨q1, q2⟩, q3⟩ := HP.out w1 hb1; have HQ := Lib.hid q3; clear q3)
    go_ret
    obtain ⟨g1, g2, g3, g4, g5, g6⟩ := HQ.out (.slice (some ⟨g', 0, none⟩) q q)
    refine ⟨g1, (fun h => absurd HN.out h), fun _ => ⟨rfl, g', g2, (hrd.kept fun a x ha h => g3 a x (by have := ha.1; have := HSZ.out; omega) h).mono fun b hb => ?_⟩⟩
    have h1 := hb.1
    have h2 := hb.2
    have := HSZ.out
    exact ⟨by omega, by rw [g4]; exact h2⟩
  · have HO : Hid (∀ w0 e w1, IDsOut w0 bs e w1 → e = .returned (.tuple #[.slice none 0 0, .int .i64 23])) := Lib.hid fun w0 e w1 h => by
      unfold IDsOut at h
      rw [if_pos (by rw [hn]; exact h32)] at h
      exact h
    have HN := Lib.hid h32
    clear hn h32
    refine callsIn_of_wp Tryd.func68 rfl trivial ?_ rfl
    simp only [Tryd.ntmps68, List.size_toArray, List.length_cons, List.length_nil, Nat.reduceAdd, Nat.reduceSub, Array.replicate_succ, Array.replicate_zero, List.push_toArray, List.append_toArray, List.nil_append, List.cons_append]
    gi_wp2_with (refine ⟨trivial, rfl, ?_⟩; gi_at_call 79; refine (callsIn_wide.2 HC.out).mono ?_; rintro e w1 ⟨hout, hb1⟩; obtain rfl := HO.out _ e w1 hout; clear hout; obtain ⟨⟨q1, q2⟩, q3⟩ := HP.out w1 hb1; have HQ := Lib.hid q3; clear q3)
    go_ret
    obtain ⟨g1, g2, g3, g4, g5, g6⟩ := HQ.out (.slice none 0 0)
    exact ⟨g1, fun _ => rfl, fun h => absurd h HN.out⟩
set_option maxRecDepth 100000 in
set_option maxHeartbeats 2000000 in
theorem put_9 (g : Nat) (F : Nat → Value) (A : Option Addr) (c : Nat) (bs : List UInt8) (w : World) (hg : Blk w g 69 (arr 41 F)) (hr : RdB w (fun b => b < w.heap.size) (.slice A bs.length c) bs) :
    CallsIn Fence.wide 0 Tryd.prog 68 #[.pointer (some ⟨g, 0, none⟩), .agg #[.int .i64 9, .slice A bs.length c, .bool true]] w fun e w' => w.grownBy w' (some g) ∧ (runs bs = none → e = .returned (.int .i64 20)) ∧ (∀ es, runs bs = some es → e = .returned (.int .i64 0) ∧ ∃ A' n c', n = (es.take 65).length ∧ Blk w' g 69 (arr 41 fun i => if i = 40 then .slice A' n c' else F i) ∧ RdP w' (fresh w w') A' (es.take 65)) := by
  obtain ⟨n, hn⟩ : ∃ n, bs.length = n := ⟨_, rfl⟩
  have hgl := hg.lt
  have k1 : Blk (w.alloc (.cells #[.int .i64 9, .slice A n c, .bool true] 122)) g 69 (arr 41 F) := hg.alloc _
  have hb1 : Below w.heap.size w (w.alloc (.cells #[.int .i64 9, .slice A n c, .bool true] 122)) := (Below.refl _ _).alloc (Nat.le_refl _) _
  have hG1 : w.grownBy (w.alloc (.cells #[.int .i64 9, .slice A n c, .bool true] 122)) (some g) := grown_alloc _ _ _
  have hr1 : RdB (w.alloc (.cells #[.int .i64 9, .slice A n c, .bool true] 122)) (fun b => b < w.heap.size) (.slice A bs.length c) bs := hr.kept fun a x ha h => (hb1.cell (p := a) ha).trans h
  have HC := Lib.hid (readList_any A c bs _ (hr1.mono fun b hb => by have := hb1.size; omega))
  rw [hn] at HC ⊢
  rw [hn] at hr1
  have HSZ : Hid ((w.alloc (.cells #[.int .i64 9, .slice A n c, .bool true] 122)).heap.size = w.heap.size + 1) := Lib.hid (by simp)
  have HP : Hid (∀ (w1 : World), Below (w.alloc (.cells #[.int .i64 9, .slice A n c, .bool true] 122)).heap.size (w.alloc (.cells #[.int .i64 9, .slice A n c, .bool true] 122)) w1 → (w1.cell? ⟨g, 40, none⟩ = some (F 40) ∧ w1.frozen? ⟨g, 40, none⟩ = false) ∧ ∀ v, w.grownBy (w1.setCell ⟨g, 40, none⟩ v) (some g) ∧ Blk (w1.setCell ⟨g, 40, none⟩ v) g 69 (arr 41 fun i => if i = 40 then v else F i) ∧ (∀ (a : Addr) (x : Value), a.block ≠ g → w1.cell? a = some x → (w1.setCell ⟨g, 40, none⟩ v).cell? a = some x) ∧ (w1.setCell ⟨g, 40, none⟩ v).heap.size = w1.heap.size ∧ w.heap.size + 1 ≤ w1.heap.size ∧ g < w.heap.size) := Lib.hid fun w1 hb => by
    have kk := k1.below hb (by simp; omega)
    refine ⟨⟨by rw [kk.cell, arr_get]; rfl, kk.frozen 40⟩, fun v => ⟨grown_trans (grown_trans hG1 (grown_below hb (some g)) (.inl rfl)) (grown_cell _ _ _ _) (.inl rfl), (kk.store 40 v).same (set_row F 41 40 v (by omega)), fun a x ha h => (World.cell?_of_block (Below.heap_setCell _ ⟨g, 40, none⟩ _ _ ha)).trans h, by simp [World.setCell], by have := hb.size; simpa using this, hgl⟩⟩
  clear hg hr k1 hb1 hG1 hr1 hgl
  clear hn
  cases hru : runs bs with
  | none =>
    have HO : Hid (∀ w0 e w1, ListOut w0 bs e w1 → e = .returned (.tuple #[.slice none 0 0, .int .i64 20])) := Lib.hid fun w0 e w1 h => by unfold ListOut at h; rw [hru] at h; exact h
    refine callsIn_of_wp Tryd.func68 rfl trivial ?_ rfl
    simp only [Tryd.ntmps68, List.size_toArray, List.length_cons, List.length_nil, Nat.reduceAdd, Nat.reduceSub, Array.replicate_succ, Array.replicate_zero, List.push_toArray, List.append_toArray, List.nil_append, List.cons_append]
    gi_wp2_with (refine ⟨trivial, rfl, ?_⟩; gi_at_call 80; refine (HC.out).mono ?_; rintro e w1 ⟨hout, hb1⟩; obtain rfl := HO.out _ e w1 hout; clear hout; obtain ⟨⟨q1, q2⟩, q3⟩ := HP.out w1 hb1; have HQ := Lib.hid q3; clear q3)
    go_ret
    obtain ⟨g1, g2, g3, g4, g5, g6⟩ := HQ.out (.slice none 0 0)
    exact ⟨g1, fun _ => rfl, fun es h => by cases h⟩
  | some es =>
    have HO : Hid (∀ w0 e w1, ListOut w0 bs e w1 → ∃ A n c, e = .returned (.tuple #[.slice A n c, .int .i64 0]) ∧ n = (es.take 65).length ∧ RdP w1 (fun b => w0.heap.size ≤ b ∧ b < w1.heap.size) A (es.take 65)) := Lib.hid fun w0 e w1 h => by unfold ListOut at h; rw [hru] at h; exact h
    refine callsIn_of_wp Tryd.func68 rfl trivial ?_ rfl
    simp only [Tryd.ntmps68, List.size_toArray, List.length_cons, List.length_nil, Nat.reduceAdd, Nat.reduceSub, Array.replicate_succ, Array.replicate_zero, List.push_toArray, List.append_toArray, List.nil_append, List.cons_append]
    gi_wp2_with (refine ⟨trivial, rfl, ?_⟩; gi_at_call 80; refine (HC.out).mono ?_; rintro e w1 ⟨hout, hb1⟩; obtain ⟨A', n', c', rfl, hn', hrd⟩ := HO.out _ e w1 hout; have HN' := Lib.hid hn'; clear hout hn'; obtain ⟨⟨q1, q2⟩, q3⟩ := HP.out w1 hb1; have HQ := Lib.hid q3; clear q3)
    go_ret
    obtain ⟨g1, g2, g3, g4, g5, g6⟩ := HQ.out (.slice A' n' c')
    refine ⟨g1, (fun h => by cases h), fun es' h => ?_⟩
    cases h
    refine ⟨rfl, A', n', c', HN'.out, g2, (hrd.kept fun a x ha h => g3 a x (by have := ha.1; have := HSZ.out; omega) h).mono fun b hb => ?_⟩
    have h1 := hb.1
    have h2 := hb.2
    have := HSZ.out
    exact ⟨by omega, by rw [g4]; exact h2⟩
end Go.Proofs.YtkbdkeclbokhdaaDoor
