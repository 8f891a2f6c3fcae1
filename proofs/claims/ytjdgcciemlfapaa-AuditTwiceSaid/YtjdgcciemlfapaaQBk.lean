/-
  Book: hasMore, isName: of a message that reads, in whatever memory. No condition.
  Book: Check, of any bytes, in whatever memory. No condition.
-/
import Derived.Test.YtjdgcciemlfapaaPackCheck
import Derived.Test.YtjdgcciemlfapaaPackOps
import Derived.Test.YtjdgcciemlfapaaPackID
import Derived.Laws.Tables
import Derived.Test.YtjdgcciemlfapaaRowC
import Derived.Great.Walk
import Derived.Great.BuildSlice
import Derived.Deep.RegionHeld3
import Derived.WalkMore
import Derived.Deep.CutRange
import Derived.Deep.RegionLaw
import Derived.Deep.LoopGhost
import Derived.Test.YtjdgcciemlfapaaPackRead
namespace Go.Proofs.Ytjdgcciemlfapaa
open Go Go.RowKit PackMath

theorem neq_idK (f g : Nat → UInt8) (w : World) : (binOp .neq 23 (.agg (arr 32 fun i => bv (f i))) (.agg (arr 32 fun i => bv (g i)))).run Try.prog w = .ok (.bool (!(id32 f == id32 g))) w := by
  have h := eql_id f g w
  generalize (id32 f == id32 g) = β at h ⊢
  generalize (arr 32 fun i => bv (f i)) = x at h ⊢
  generalize (arr 32 fun i => bv (g i)) = y at h ⊢
  rw [run_eql_struct] at h
  rw [run_neq_struct]
  generalize (Op.equalIn 10000 23 (.agg x) (.agg y)).run Try.prog w = r at h ⊢
  cases r with
  | ok b w' =>
    simp only [Result.andThen_ok, Result.ok.injEq, Value.bool.injEq] at h
    obtain ⟨rfl, rfl⟩ := h
    rfl
  | halt _ _ => cases h
/-- More than an entry has. -/
def Raw.more (r : Raw) : Bool := r.height != 0 || (r.round != 0 || (r.valid != 0 || (!(id32 r.id == zid) || (decide (0 < r.ids.length) || decide (0 < r.list.length)))))
/-- An entry's name. -/
def Raw.named (r : Raw) : Bool := r.kind == 1 && (decide (r.who ≤ 15) && decide (1 ≤ r.num))
section
variable {r : Raw} {d i l : Value} {W : World} {g : Nat}
theorem msg_id_cells (h : Blk W g 28 (msgA r d i l)) : ∀ j, j < 32 → W.cell? ((⟨g, 6, none⟩ : Addr).add j) = some ((fun i => bv (r.id i)) j) := fun j hj => by
  have e : ((⟨g, 6, none⟩ : Addr).add j) = ⟨g, j + 6, none⟩ := by
    unfold Addr.add
    split <;> simp_all [Nat.add_comm]
  rw [e, h.cell, msgA, arr_get, if_pos (by omega)]
  show some (if j + 6 < 38 then bv (r.id (j + 6 - 6)) else _) = _
  rw [if_pos (by omega), Nat.add_sub_cancel]
end
set_option maxRecDepth 100000 in
set_option maxHeartbeats 2000000 in
theorem isName_any (r : Raw) (d i l : Value) (w : World) :
    Calls Try.prog 47 #[.agg (msgA r d i l)] w fun e w' => e = .returned (.bool r.named) ∧ Below w.heap.size w w' := by
  have hb : Below w.heap.size w (w.alloc (.cells (msgA r d i l) 28)) := (Below.refl _ _).alloc (Nat.le_refl _) _
  have hk : Blk (w.alloc (.cells (msgA r d i l) 28)) w.heap.size 28 (msgA r d i l) := Blk.new _ _ _
  obtain ⟨c0, c1, c2, c3, c4, c5, c7, c8, c9⟩ := msg_cells hk
  obtain ⟨M, hM⟩ : ∃ M, msgA r d i l = M := ⟨_, rfl⟩
  rw [hM] at c0 c1 c5 hb ⊢
  have HB := Lib.hid hb
  obtain ⟨k, hk0⟩ : ∃ z, r.kind = z := ⟨_, rfl⟩
  obtain ⟨q, hq⟩ : ∃ z, r.who = z := ⟨_, rfl⟩
  obtain ⟨m, hm⟩ : ∃ z, r.num = z := ⟨_, rfl⟩
  have hn : r.named = (k == 1 && (decide (q ≤ 15) && decide (1 ≤ m))) := by unfold Raw.named; rw [hk0, hq, hm]
  rw [hk0] at c0
  rw [hq] at c1
  rw [hm] at c5
  rw [hn]
  clear hn hk0 hq hm hM hb hk c2 c3 c4 c7 c8 c9
  by_cases h0 : k = 1
  · have e0 : (k == 1) = true := by simpa using h0
    rw [e0, Bool.true_and]
    clear h0
    by_cases h1 : q ≤ 15
    · have e1 : decide (q ≤ 15) = true := decide_eq_true h1
      rw [e1, Bool.true_and]
      by_cases h2 : 1 ≤ m
      · have e2 : decide (m ≥ 1) = true := decide_eq_true h2
        have e3 : decide (1 ≤ m) = true := decide_eq_true h2
        rw [e3]
        clear h1 h2
        go_enter Try.func47, Try.ntmps47
        go_wp2
        go_ret
        exact ⟨rfl, HB.out⟩
      · have e2 : decide (m ≥ 1) = false := decide_eq_false h2
        have e3 : decide (1 ≤ m) = false := decide_eq_false h2
        rw [e3]
        clear h1 h2
        go_enter Try.func47, Try.ntmps47
        go_wp2
        go_ret
        exact ⟨rfl, HB.out⟩
    · have e1 : decide (q ≤ 15) = false := decide_eq_false h1
      rw [e1, Bool.false_and]
      clear h1
      go_enter Try.func47, Try.ntmps47
      go_wp2
      go_ret
      exact ⟨rfl, HB.out⟩
  · have e0 : (k == 1) = false := by simpa using h0
    rw [e0, Bool.false_and]
    clear h0
    go_enter Try.func47, Try.ntmps47
    go_wp2
    go_ret
    exact ⟨rfl, HB.out⟩
set_option maxRecDepth 100000 in
set_option maxHeartbeats 4000000 in
theorem hasMore_any (r : Raw) (d i l : Value) (w : World) (hr : RdR w (fun b => b < w.heap.size) r d i l) :
    Calls Try.prog 46 #[.agg (msgA r d i l)] w fun e w' => e = .returned (.bool r.more) ∧ Below w.heap.size w w' := by
  have hb : Below w.heap.size w (w.alloc (.cells (msgA r d i l) 28)) := (Below.refl _ _).alloc (Nat.le_refl _) _
  have hk : Blk (w.alloc (.cells (msgA r d i l) 28)) w.heap.size 28 (msgA r d i l) := Blk.new _ _ _
  obtain ⟨c0, c1, c2, c3, c4, c5, c7, c8, c9⟩ := msg_cells hk
  have hidc := msg_id_cells hk
  obtain ⟨_, ⟨Ai, ci, rfl, _, _⟩, ⟨Al, cl, rfl, _, _⟩⟩ := hr
  obtain ⟨M, hM⟩ : ∃ M, msgA r d (.slice Ai r.ids.length ci) (.slice Al r.list.length cl) = M := ⟨_, rfl⟩
  rw [hM] at c2 c3 c4 c8 c9 hidc hb ⊢
  have HB := Lib.hid hb
  have heq := fun w' => neq_idK r.id (fun _ => 0) w'
  rw [id32_zero] at heq
  have hz := built_zero
  obtain ⟨β, hβ⟩ : ∃ z, (id32 r.id == zid) = z := ⟨_, rfl⟩
  obtain ⟨ni, hni⟩ : ∃ z, r.ids.length = z := ⟨_, rfl⟩
  obtain ⟨nl, hnl⟩ : ∃ z, r.list.length = z := ⟨_, rfl⟩
  obtain ⟨x2, hx2⟩ : ∃ z, r.height = z := ⟨_, rfl⟩
  obtain ⟨x3, hx3⟩ : ∃ z, r.round = z := ⟨_, rfl⟩
  obtain ⟨x4, hx4⟩ : ∃ z, r.valid = z := ⟨_, rfl⟩
  have hn : r.more = (x2 != 0 || (x3 != 0 || (x4 != 0 || (!β || (decide (0 < ni) || decide (0 < nl)))))) := by unfold Raw.more; rw [hβ, hni, hnl, hx2, hx3, hx4]
  rw [hβ] at heq
  rw [hni] at c8
  rw [hnl] at c9
  rw [hx2] at c2
  rw [hx3] at c3
  rw [hx4] at c4
  rw [hn]
  obtain ⟨cid, hcid⟩ : ∃ c, (arr 32 fun i => bv (r.id i)) = c := ⟨_, rfl⟩
  have HC := Lib.hid hcid
  rw [hcid] at heq
  clear hn hβ hni hnl hx2 hx3 hx4 hM hb hk c0 c1 c5 c7 hcid
  by_cases h2 : x2 = 0
  · have e2 : (x2 != 0) = false := by simpa using h2
    rw [e2, Bool.false_or]
    clear h2
    by_cases h3 : x3 = 0
    · have e3 : (x3 != 0) = false := by simpa using h3
      rw [e3, Bool.false_or]
      clear h3
      by_cases h4 : x4 = 0
      · have e4 : (x4 != 0) = false := by simpa using h4
        rw [e4, Bool.false_or]
        clear h4
        cases β with
        | false =>
          go_enter Try.func46, Try.ntmps46
          go_wp2_with (first
            | (guard_target = wpList _ _ _ (Oper.mk _ (.load 23 _) _ _ _ _ :: _) _ _; refine wpList_load_at rfl 23 _ rfl (⟨w.heap.size, 6, none⟩ : Addr) rfl 32 _ 5 hidc Try.underlying23 (by kernel_rfl) ?_; rw [HC.out])
            | (refine wpList_build rfl 23 #[] rfl (by kernel_rfl) ?_; simp only [List.map_toArray, List.map_nil]; rw [hz]))
          go_ret
          exact ⟨rfl, HB.out⟩
        | true =>
          by_cases h8 : 0 < ni
          · have e8 : decide ((ni : Int) > 0) = true := decide_eq_true (by omega)
            have e9 : decide (0 < ni) = true := decide_eq_true h8
            rw [e9]
            clear h8
            go_enter Try.func46, Try.ntmps46
            go_wp2_with (first
              | (guard_target = wpList _ _ _ (Oper.mk _ (.load 23 _) _ _ _ _ :: _) _ _; refine wpList_load_at rfl 23 _ rfl (⟨w.heap.size, 6, none⟩ : Addr) rfl 32 _ 5 hidc Try.underlying23 (by kernel_rfl) ?_; rw [HC.out])
              | (refine wpList_build rfl 23 #[] rfl (by kernel_rfl) ?_; simp only [List.map_toArray, List.map_nil]; rw [hz]))
            go_ret
            exact ⟨rfl, HB.out⟩
          · obtain rfl : ni = 0 := by omega
            by_cases h9 : 0 < nl
            · have e8 : decide ((nl : Int) > 0) = true := decide_eq_true (by omega)
              have e9 : decide (0 < nl) = true := decide_eq_true h9
              rw [e9]
              clear h8 h9
              go_enter Try.func46, Try.ntmps46
              go_wp2_with (first
                | (guard_target = wpList _ _ _ (Oper.mk _ (.load 23 _) _ _ _ _ :: _) _ _; refine wpList_load_at rfl 23 _ rfl (⟨w.heap.size, 6, none⟩ : Addr) rfl 32 _ 5 hidc Try.underlying23 (by kernel_rfl) ?_; rw [HC.out])
                | (refine wpList_build rfl 23 #[] rfl (by kernel_rfl) ?_; simp only [List.map_toArray, List.map_nil]; rw [hz]))
              go_ret
              exact ⟨rfl, HB.out⟩
            · obtain rfl : nl = 0 := by omega
              clear h8 h9
              go_enter Try.func46, Try.ntmps46
              go_wp2_with (first
                | (guard_target = wpList _ _ _ (Oper.mk _ (.load 23 _) _ _ _ _ :: _) _ _; refine wpList_load_at rfl 23 _ rfl (⟨w.heap.size, 6, none⟩ : Addr) rfl 32 _ 5 hidc Try.underlying23 (by kernel_rfl) ?_; rw [HC.out])
                | (refine wpList_build rfl 23 #[] rfl (by kernel_rfl) ?_; simp only [List.map_toArray, List.map_nil]; rw [hz]))
              go_ret
              exact ⟨rfl, HB.out⟩
      · have e4 : (x4 != 0) = true := by simpa using h4
        rw [e4, Bool.true_or]
        clear h4
        go_enter Try.func46, Try.ntmps46
        go_wp2
        go_ret
        exact ⟨rfl, HB.out⟩
    · have e3 : (x3 != 0) = true := by simpa using h3
      rw [e3, Bool.true_or]
      clear h3
      go_enter Try.func46, Try.ntmps46
      go_wp2
      go_ret
      exact ⟨rfl, HB.out⟩
  · have e2 : (x2 != 0) = true := by simpa using h2
    rw [e2, Bool.true_or]
    clear h2
    go_enter Try.func46, Try.ntmps46
    go_wp2
    go_ret
    exact ⟨rfl, HB.out⟩
end Go.Proofs.Ytjdgcciemlfapaa
namespace Go.Proofs.Ytjdgcciemlfapaa
open Go Go.RowKit PackMath

/-- An entry, or the error's number. -/
def checkA (bs : List UInt8) : Except Nat Raw := match readP bs with
  | .error c => .error c
  | .ok r => if r.more then .error 23 else if r.named then (if 256 < r.data.length then .error 2 else .ok r) else .error 23
def CheckOut (w : World) (bs : List UInt8) (e : Ending) (w' : World) : Prop :=
  match checkA bs with
  | .error c => e = .returned (.tuple #[.agg (msgA (zeroRaw 0) nilS nilS nilS), .int .i64 (c : Int)]) ∧ c ≠ 0
  | .ok r => ∃ d i l, e = .returned (.tuple #[.agg (msgA r d i l), .int .i64 0]) ∧ RdR w' (fun b => w.heap.size ≤ b ∧ b < w'.heap.size) r d i l
theorem wpList_load_runB {P : Program} {ops : Array Oper} {rest : List Oper} {o : Oper} {a : Go.Act} {w : World} {Q : Exit → Go.Act → World → Prop} (hw : Region.wanted o (yielded ops a.tmps) = true) (ty : TypeId) (x : Operand) (ho : o.op = .load ty x) (p v : Value) (hx : a.eval x = p) (hl : (Instr.loadAt ty p).run P w = .ok v w)
    (h : wpList P ops Q rest (a.put o.dst v) w) : wpList P ops Q (o :: rest) a w :=
  wpList_step fun K hK => by
    rw [if_pos hw]
    unfold Oper.wp
    simp [execOp, ho, hx, hl, Result.andThen, Oper.upon]
    exact hK _ _ h
theorem load_msgK {W : World} {g : Nat} {M : Array Value} (h : Blk W g 28 M) (hs : M.size = 41) : (Instr.loadAt 28 (.pointer (some ⟨g, 0, none⟩))).run Try.prog W = .ok (.agg M) W := by
  have h0 := run_load_el W 28 _ Try.underlying28 rfl ⟨g, 0, none⟩ M.toList (by rw [Array.length_toList, hs]; kernel_rfl) fun q hq => by
    have e : ((⟨g, 0, none⟩ : Addr).add q) = ⟨g, q, none⟩ := by
      unfold Addr.add
      split <;> simp_all
    rw [e, h.cell, Array.getElem?_toList]
  exact h0
set_option maxRecDepth 100000 in
set_option maxHeartbeats 8000000 in
theorem bookCheck_any (A : Option Addr) (c : Nat) (bs : List UInt8) (w : World) (hr : RdB w (fun b => b < w.heap.size) (.slice A bs.length c) bs) :
    Calls Try.prog 30 #[.slice A bs.length c] w fun e w' => CheckOut w bs e w' ∧ Below w.heap.size w w' := by
  have HZ0 := Lib.hid built_msg0
  have HZA : Hid ((msgA (zeroRaw 0) nilS nilS nilS).all (·.oneCell') = true) := Lib.hid (msg_all (zero_rd w (fun _ => False) 0))
  have HZS : Hid ((msgA (zeroRaw 0) nilS nilS nilS).size = 41) := Lib.hid (arr_size _ _)
  have HRD := Lib.hid hr
  obtain ⟨n, hn⟩ : ∃ n, bs.length = n := ⟨_, rfl⟩
  have HREAD : Hid (∀ W, Below w.heap.size w W → Calls Try.prog 9 #[.slice A n c] W fun e w' => ReadOut W bs e w' ∧ Below W.heap.size W w') := Lib.hid fun W hb => by
    rw [← hn]
    exact read_any A c bs W ((HRD.out.kept fun a x ha h => (hb.cell (p := a) ha).trans h).mono fun b h => Nat.lt_of_lt_of_le h hb.size)
  rw [hn]
  clear hr hn
  cases hrp : readP bs with
  | error k =>
    have HOUT : Hid (∀ w', k ≠ 0 → CheckOut w bs (.returned (.tuple #[.agg (msgA (zeroRaw 0) nilS nilS nilS), .int .i64 (k : Int)])) w') := Lib.hid fun w' h => by
      unfold CheckOut checkA
      rw [hrp]
      exact ⟨rfl, h⟩
    have HRE : Hid (∀ W, Below w.heap.size w W → Calls Try.prog 9 #[.slice A n c] W fun e w' => (e = .returned (.tuple #[.agg (msgA (zeroRaw 0) nilS nilS nilS), .int .i64 (k : Int)]) ∧ k ≠ 0) ∧ Below W.heap.size W w') := Lib.hid fun W hb => (HREAD.out W hb).mono fun e w' h => ⟨by have := h.1; unfold ReadOut at this; rw [hrp] at this; exact this, h.2⟩
    clear hrp
    obtain ⟨Z, hZ⟩ : ∃ Z, msgA (zeroRaw 0) nilS nilS nilS = Z := ⟨_, rfl⟩
    rw [hZ] at HZ0 HZA HZS HOUT HRE
    clear hZ HREAD
    go_enter Try.func30, Try.ntmps30
    go_upto_region 1 with fail
    generalize hW1 : World.alloc w _ = W1
    have hb1 : Below w.heap.size w W1 := by rw [← hW1]; exact (Below.refl _ _).alloc (Nat.le_refl _) _
    obtain ⟨OLD, hk1, hos⟩ : ∃ OLD, Blk W1 w.heap.size 28 OLD ∧ OLD.size = 41 := by rw [← hW1]; exact ⟨_, Blk.new _ _ _, rfl⟩
    have HOS := Lib.hid hos
    have HK1 := Lib.hid hk1
    have HB1 := Lib.hid hb1
    clear hW1 hb1 hk1 hos
    go_upto_region 2 with (first
      | (go_at_call 9; refine (HRE.out _ HB1.out).mono ?_; rintro e W2 ⟨⟨rfl, hk0⟩, hb2⟩; have HK2 := Lib.hid (HK1.out.below hb2 HK1.out.lt); have HB2 := Lib.hid (HB1.out.trans (hb2.mono HB1.out.size)); have HK0 := Lib.hid hk0; clear hb2 hk0)
      | (guard_target = wpList _ _ _ (Oper.mk _ (.store 28 (.tmp 4) _) _ _ _ _ :: _) _ _; refine wpList_store_row rfl 28 _ _ rfl W2.heap.size Z rfl rfl 28 _ (heap_alloc_new W2 _) (by rw [HZS.out]; kernel_rfl) (by rw [HZS.out]; rfl) HZA.out ?_; rw [World.setRow_alloc_new]))
    generalize hW3 : World.alloc W2 _ = W3
    have hb3 : Below W2.heap.size W2 W3 := by rw [← hW3]; exact (Below.refl _ _).alloc (Nat.le_refl _) _
    have HK4 := Lib.hid (HK2.out.below hb3 HK2.out.lt)
    have HB4 := Lib.hid (HB2.out.trans (hb3.mono HB2.out.size))
    clear hW3 hb3
    have e1 : ((k : Int) != 0) = true := by have := HK0.out; simpa using this
    go_wp2_with (first
      | (guard_target = wpList _ _ _ (Oper.mk _ (.build 28 _) _ _ _ _ :: _) _ _; refine wpList_build rfl 28 #[] rfl (by kernel_rfl) ?_; simp only [List.map_toArray, List.map_nil]; rw [HZ0.out])
      | (guard_target = wpList _ _ _ (Oper.mk _ (.store 28 (.tmp 2) _) _ _ _ _ :: _) _ _; refine wpList_store_row rfl 28 _ _ rfl w.heap.size Z rfl rfl 28 _ HK4.out (by rw [HZS.out]; kernel_rfl) (by rw [HZS.out, HOS.out]) HZA.out ?_))
    exact bodyPost_ret (results_cell_tmp (p := 2) (q := 3) rfl _ _ w.heap.size 28 _ _ rfl (HK4.out.setRow _) Try.underlying28 rfl (by rw [HZS.out]; kernel_rfl)) rfl ⟨HOUT.out _ HK0.out, below_setRow HB4.out (Nat.le_refl _) _⟩
  | ok r =>
    have HRE : Hid (∀ W, Below w.heap.size w W → Calls Try.prog 9 #[.slice A n c] W fun e w' => (∃ d i l, e = .returned (.tuple #[.agg (msgA r d i l), .int .i64 0]) ∧ RdR w' (fresh W w') r d i l) ∧ Below W.heap.size W w') := Lib.hid fun W hb => (HREAD.out W hb).mono fun e w' h => ⟨by have := h.1; unfold ReadOut at this; rw [hrp] at this; exact this, h.2⟩
    have HMO : Hid (∀ d i l W, RdR W (fun b => b < W.heap.size) r d i l → Calls Try.prog 46 #[.agg (msgA r d i l)] W fun e w' => e = .returned (.bool r.more) ∧ Below W.heap.size W w') := Lib.hid fun d i l W h => hasMore_any r d i l W h
    have HNA : Hid (∀ d i l W, Calls Try.prog 47 #[.agg (msgA r d i l)] W fun e w' => e = .returned (.bool r.named) ∧ Below W.heap.size W w') := Lib.hid fun d i l W => isName_any r d i l W
    have HC : Hid (checkA bs = if r.more then .error 23 else if r.named then (if 256 < r.data.length then .error 2 else .ok r) else .error 23) := Lib.hid (by unfold checkA; rw [hrp])
    clear hrp HREAD
    obtain ⟨Z, hZ⟩ : ∃ Z, msgA (zeroRaw 0) nilS nilS nilS = Z := ⟨_, rfl⟩
    have HZE := Lib.hid hZ
    rw [hZ] at HZ0 HZA HZS
    obtain ⟨β1, hβ1⟩ : ∃ z, r.more = z := ⟨_, rfl⟩
    obtain ⟨β2, hβ2⟩ : ∃ z, r.named = z := ⟨_, rfl⟩
    obtain ⟨m, hm⟩ : ∃ z, r.data.length = z := ⟨_, rfl⟩
    have HM := Lib.hid hm
    rw [hβ1] at HMO HC
    rw [hβ2] at HNA HC
    rw [hm] at HC
    clear hZ hβ1 hβ2 hm
    go_enter Try.func30, Try.ntmps30
    go_upto_region 1 with fail
    generalize hW1 : World.alloc w _ = W1
    have hb1 : Below w.heap.size w W1 := by rw [← hW1]; exact (Below.refl _ _).alloc (Nat.le_refl _) _
    obtain ⟨OLD, hk1, hos⟩ : ∃ OLD, Blk W1 w.heap.size 28 OLD ∧ OLD.size = 41 := by rw [← hW1]; exact ⟨_, Blk.new _ _ _, rfl⟩
    have HOS := Lib.hid hos
    have HK1 := Lib.hid hk1
    have HB1 := Lib.hid hb1
    clear hW1 hb1 hk1 hos
    go_wp2_with fail
    refine (HRE.out _ HB1.out).mono ?_
    rintro e W2 ⟨⟨d, i, l, rfl, hr2⟩, hb2⟩
    have hrr : RdR W2 (fun b => b < W2.heap.size) r d i l := hr2.mono fun b hb => hb.2
    have HFR : Hid (RdR W2 (fun b => w.heap.size < b ∧ b < W2.heap.size) r d i l) := Lib.hid (hr2.mono fun b hb => ⟨by have := hb.1; have := HK1.out.lt; omega, hb.2⟩)
    have hrr2 := hrr
    obtain ⟨⟨Ad, cd, rfl, _⟩, _, _⟩ := hrr2
    rw [HM.out] at hrr HFR ⊢
    have HRR := Lib.hid hrr
    have HMA : Hid ((msgA r (.slice Ad m cd) i l).all (·.oneCell') = true) := Lib.hid (msg_all hrr)
    have HMS : Hid ((msgA r (.slice Ad m cd) i l).size = 41) := Lib.hid (arr_size _ _)
    have HK2 := Lib.hid (HK1.out.below hb2 HK1.out.lt)
    have HB2 := Lib.hid (HB1.out.trans (hb2.mono HB1.out.size))
    have HMO2 := Lib.hid (HMO.out (.slice Ad m cd) i l)
    have HNA2 := Lib.hid (HNA.out (.slice Ad m cd) i l)
    obtain ⟨V, hV⟩ : ∃ V, msgA r (.slice Ad m cd) i l = V := ⟨_, rfl⟩
    have HV := Lib.hid hV
    rw [hV] at HMA HMS HMO2 HNA2 ⊢
    clear hr2 hb2 hrr hV HMO HNA HK1 HB1 HRE
    dsimp only
    go_upto_region 2 with (guard_target = wpList _ _ _ (Oper.mk _ (.store 28 (.tmp 4) _) _ _ _ _ :: _) _ _; refine wpList_store_row rfl 28 _ _ rfl W2.heap.size V rfl rfl 28 _ (heap_alloc_new W2 _) (by rw [HMS.out]; kernel_rfl) (by rw [HMS.out]; rfl) HMA.out ?_; rw [World.setRow_alloc_new])
    obtain ⟨W3, hW3⟩ : ∃ W3, W2.alloc (.cells V 28) = W3 := ⟨_, rfl⟩
    rw [hW3]
    have hb3 : Below W2.heap.size W2 W3 := by rw [← hW3]; exact (Below.refl _ _).alloc (Nat.le_refl _) _
    have HK3 : Hid (Blk W3 W2.heap.size 28 V) := Lib.hid (by rw [← hW3]; exact Blk.newAt _ _ rfl rfl)
    have HO3 := Lib.hid (HK2.out.below hb3 HK2.out.lt)
    have HB3 := Lib.hid (HB2.out.trans (hb3.mono HB2.out.size))
    have HF3 : Hid (Below W2.heap.size W2 W3) := Lib.hid hb3
    clear hW3 hb3
    cases β1 with
    | true =>
      have HOUT : Hid (∀ w', CheckOut w bs (.returned (.tuple #[.agg Z, .int .i64 23])) w') := Lib.hid fun w' => by
        unfold CheckOut
        rw [HC.out, ← HZE.out]
        exact ⟨rfl, by omega⟩
      go_wp2_with (first
        | (go_at_call 46; refine (HMO2.out _ ((HRR.out.kept fun a x ha h => (HF3.out.cell (p := a) ha).trans h).mono fun b h => Nat.lt_of_lt_of_le h HF3.out.size)).mono ?_; rintro e W4 ⟨rfl, hb4⟩; have HK3 := Lib.hid (HK3.out.below hb4 HK3.out.lt); have HO3 := Lib.hid (HO3.out.below hb4 HO3.out.lt); have HB3 := Lib.hid (HB3.out.trans (hb4.mono HB3.out.size)); have HF3 := Lib.hid (HF3.out.trans (hb4.mono HF3.out.size)); clear hb4)
        | (go_at_call 47; refine (HNA2.out _).mono ?_; rintro e W5 ⟨rfl, hb4⟩; have HK3 := Lib.hid (HK3.out.below hb4 HK3.out.lt); have HO3 := Lib.hid (HO3.out.below hb4 HO3.out.lt); have HB3 := Lib.hid (HB3.out.trans (hb4.mono HB3.out.size)); have HF3 := Lib.hid (HF3.out.trans (hb4.mono HF3.out.size)); clear hb4; have c38 := (msg_cells (r := r) (d := .slice Ad m cd) (i := i) (l := l) (by rw [HV.out]; exact HK3.out)).2.2.2.2.2.2.1)
        | (guard_target = wpList _ _ _ (Oper.mk _ (.load 28 _) _ _ _ _ :: _) _ _; refine wpList_load_runB (by rfl) 28 _ rfl (.pointer (some ⟨W2.heap.size, 0, none⟩)) (.agg V) rfl (load_msgK HK3.out HMS.out) ?_)
        | (guard_target = wpList _ _ _ (Oper.mk _ (.build 28 _) _ _ _ _ :: _) _ _; refine wpList_build rfl 28 #[] rfl (by kernel_rfl) ?_; simp only [List.map_toArray, List.map_nil]; rw [HZ0.out])
        | (guard_target = wpList _ _ _ (Oper.mk _ (.store 28 (.tmp 2) _) _ _ _ _ :: _) _ _; refine wpList_store_row rfl 28 _ _ rfl w.heap.size Z rfl rfl 28 _ HO3.out (by rw [HZS.out]; kernel_rfl) (by rw [HZS.out, HOS.out]) HZA.out ?_))
      exact bodyPost_ret (results_cell_tmp (p := 2) (q := 3) rfl _ _ w.heap.size 28 _ _ rfl (HO3.out.setRow _) Try.underlying28 rfl (by rw [HZS.out]; kernel_rfl)) rfl ⟨HOUT.out _, below_setRow HB3.out (Nat.le_refl _) _⟩
    | false =>
      cases β2 with
      | false =>
        have HOUT : Hid (∀ w', CheckOut w bs (.returned (.tuple #[.agg Z, .int .i64 23])) w') := Lib.hid fun w' => by
          unfold CheckOut
          rw [HC.out, ← HZE.out]
          exact ⟨rfl, by omega⟩
        go_wp2_with (first
          | (go_at_call 46; refine (HMO2.out _ ((HRR.out.kept fun a x ha h => (HF3.out.cell (p := a) ha).trans h).mono fun b h => Nat.lt_of_lt_of_le h HF3.out.size)).mono ?_; rintro e W4 ⟨rfl, hb4⟩; have HK3 := Lib.hid (HK3.out.below hb4 HK3.out.lt); have HO3 := Lib.hid (HO3.out.below hb4 HO3.out.lt); have HB3 := Lib.hid (HB3.out.trans (hb4.mono HB3.out.size)); have HF3 := Lib.hid (HF3.out.trans (hb4.mono HF3.out.size)); clear hb4)
          | (go_at_call 47; refine (HNA2.out _).mono ?_; rintro e W5 ⟨rfl, hb4⟩; have HK3 := Lib.hid (HK3.out.below hb4 HK3.out.lt); have HO3 := Lib.hid (HO3.out.below hb4 HO3.out.lt); have HB3 := Lib.hid (HB3.out.trans (hb4.mono HB3.out.size)); have HF3 := Lib.hid (HF3.out.trans (hb4.mono HF3.out.size)); clear hb4; have c38 := (msg_cells (r := r) (d := .slice Ad m cd) (i := i) (l := l) (by rw [HV.out]; exact HK3.out)).2.2.2.2.2.2.1)
          | (guard_target = wpList _ _ _ (Oper.mk _ (.load 28 _) _ _ _ _ :: _) _ _; refine wpList_load_runB (by rfl) 28 _ rfl (.pointer (some ⟨W2.heap.size, 0, none⟩)) (.agg V) rfl (load_msgK HK3.out HMS.out) ?_)
          | (guard_target = wpList _ _ _ (Oper.mk _ (.build 28 _) _ _ _ _ :: _) _ _; refine wpList_build rfl 28 #[] rfl (by kernel_rfl) ?_; simp only [List.map_toArray, List.map_nil]; rw [HZ0.out])
          | (guard_target = wpList _ _ _ (Oper.mk _ (.store 28 (.tmp 2) _) _ _ _ _ :: _) _ _; refine wpList_store_row rfl 28 _ _ rfl w.heap.size Z rfl rfl 28 _ HO3.out (by rw [HZS.out]; kernel_rfl) (by rw [HZS.out, HOS.out]) HZA.out ?_))
        exact bodyPost_ret (results_cell_tmp (p := 2) (q := 3) rfl _ _ w.heap.size 28 _ _ rfl (HO3.out.setRow _) Try.underlying28 rfl (by rw [HZS.out]; kernel_rfl)) rfl ⟨HOUT.out _, below_setRow HB3.out (Nat.le_refl _) _⟩
      | true =>
        by_cases h256 : 256 < m
        · have e8 : decide ((m : Int) > 256) = true := decide_eq_true (by omega)
          have HOUT : Hid (∀ w', CheckOut w bs (.returned (.tuple #[.agg Z, .int .i64 2])) w') := Lib.hid fun w' => by
            unfold CheckOut
            rw [HC.out, ← HZE.out]
            simp only [if_pos h256, if_true, Bool.false_eq_true, if_false]
            exact ⟨rfl, by omega⟩
          clear h256
          go_wp2_with (first
            | (go_at_call 46; refine (HMO2.out _ ((HRR.out.kept fun a x ha h => (HF3.out.cell (p := a) ha).trans h).mono fun b h => Nat.lt_of_lt_of_le h HF3.out.size)).mono ?_; rintro e W4 ⟨rfl, hb4⟩; have HK3 := Lib.hid (HK3.out.below hb4 HK3.out.lt); have HO3 := Lib.hid (HO3.out.below hb4 HO3.out.lt); have HB3 := Lib.hid (HB3.out.trans (hb4.mono HB3.out.size)); have HF3 := Lib.hid (HF3.out.trans (hb4.mono HF3.out.size)); clear hb4)
            | (go_at_call 47; refine (HNA2.out _).mono ?_; rintro e W5 ⟨rfl, hb4⟩; have HK3 := Lib.hid (HK3.out.below hb4 HK3.out.lt); have HO3 := Lib.hid (HO3.out.below hb4 HO3.out.lt); have HB3 := Lib.hid (HB3.out.trans (hb4.mono HB3.out.size)); have HF3 := Lib.hid (HF3.out.trans (hb4.mono HF3.out.size)); clear hb4; have c38 := (msg_cells (r := r) (d := .slice Ad m cd) (i := i) (l := l) (by rw [HV.out]; exact HK3.out)).2.2.2.2.2.2.1)
            | (guard_target = wpList _ _ _ (Oper.mk _ (.load 28 _) _ _ _ _ :: _) _ _; refine wpList_load_runB (by rfl) 28 _ rfl (.pointer (some ⟨W2.heap.size, 0, none⟩)) (.agg V) rfl (load_msgK HK3.out HMS.out) ?_)
            | (guard_target = wpList _ _ _ (Oper.mk _ (.build 28 _) _ _ _ _ :: _) _ _; refine wpList_build rfl 28 #[] rfl (by kernel_rfl) ?_; simp only [List.map_toArray, List.map_nil]; rw [HZ0.out])
            | (guard_target = wpList _ _ _ (Oper.mk _ (.store 28 (.tmp 2) _) _ _ _ _ :: _) _ _; refine wpList_store_row rfl 28 _ _ rfl w.heap.size Z rfl rfl 28 _ HO3.out (by rw [HZS.out]; kernel_rfl) (by rw [HZS.out, HOS.out]) HZA.out ?_))
          exact bodyPost_ret (results_cell_tmp (p := 2) (q := 3) rfl _ _ w.heap.size 28 _ _ rfl (HO3.out.setRow _) Try.underlying28 rfl (by rw [HZS.out]; kernel_rfl)) rfl ⟨HOUT.out _, below_setRow HB3.out (Nat.le_refl _) _⟩
        · have e8 : decide ((m : Int) > 256) = false := decide_eq_false (by omega)
          have HOUT : Hid (∀ w', RdR w' (fun b => w.heap.size ≤ b ∧ b < w'.heap.size) r (.slice Ad m cd) i l → CheckOut w bs (.returned (.tuple #[.agg V, .int .i64 0])) w') := Lib.hid fun w' h => by
            unfold CheckOut
            rw [HC.out, ← HV.out]
            simp only [if_neg h256, if_true, Bool.false_eq_true, if_false]
            exact ⟨_, _, _, rfl, h⟩
          clear h256
          go_wp2_with (first
            | (go_at_call 46; refine (HMO2.out _ ((HRR.out.kept fun a x ha h => (HF3.out.cell (p := a) ha).trans h).mono fun b h => Nat.lt_of_lt_of_le h HF3.out.size)).mono ?_; rintro e W4 ⟨rfl, hb4⟩; have HK3 := Lib.hid (HK3.out.below hb4 HK3.out.lt); have HO3 := Lib.hid (HO3.out.below hb4 HO3.out.lt); have HB3 := Lib.hid (HB3.out.trans (hb4.mono HB3.out.size)); have HF3 := Lib.hid (HF3.out.trans (hb4.mono HF3.out.size)); clear hb4)
            | (go_at_call 47; refine (HNA2.out _).mono ?_; rintro e W5 ⟨rfl, hb4⟩; have HK3 := Lib.hid (HK3.out.below hb4 HK3.out.lt); have HO3 := Lib.hid (HO3.out.below hb4 HO3.out.lt); have HB3 := Lib.hid (HB3.out.trans (hb4.mono HB3.out.size)); have HF3 := Lib.hid (HF3.out.trans (hb4.mono HF3.out.size)); clear hb4; have c38 := (msg_cells (r := r) (d := .slice Ad m cd) (i := i) (l := l) (by rw [HV.out]; exact HK3.out)).2.2.2.2.2.2.1)
            | (guard_target = wpList _ _ _ (Oper.mk _ (.load 28 _) _ _ _ _ :: _) _ _; refine wpList_load_runB (by rfl) 28 _ rfl (.pointer (some ⟨W2.heap.size, 0, none⟩)) (.agg V) rfl (load_msgK HK3.out HMS.out) ?_)
            | (guard_target = wpList _ _ _ (Oper.mk _ (.store 28 (.tmp 2) _) _ _ _ _ :: _) _ _; refine wpList_store_row rfl 28 _ _ rfl w.heap.size V rfl rfl 28 _ HO3.out (by rw [HMS.out]; kernel_rfl) (by rw [HMS.out, HOS.out]) HMA.out ?_))
          exact bodyPost_ret (results_cell_tmp (p := 2) (q := 3) rfl _ _ w.heap.size 28 _ _ rfl (HO3.out.setRow _) Try.underlying28 rfl (by rw [HMS.out]; kernel_rfl)) rfl ⟨HOUT.out _ ((HFR.out.kept fun a x ha h => (World.cell?_of_block (setRow_other _ _ _ _ (by have := ha.1; omega))).trans ((HF3.out.cell (p := a) ha.2).trans h)).mono fun b hb => ⟨by have := hb.1; omega, by rw [size_setRow]; exact Nat.lt_of_lt_of_le hb.2 HF3.out.size⟩), below_setRow HB3.out (Nat.le_refl _) _⟩
end Go.Proofs.Ytjdgcciemlfapaa
