/-
  The count of votes: tally, All and For. No condition.
-/
import Derived.Test.YtbgojlcciealiaaCntCast
namespace Go.Proofs.Ytbgojlcciealiaa
open Go Go.RowKit Go.Maps
attribute [local go_sem] Oper.semAt_some
theorem Blk.putObj {W : World} {g l : Nat} {t : TypeId} {cs : Array Value} {o : Obj} (h : Blk W g t cs) (o' : Obj) (hl : W.heap[l]? = some o) (ho : o.isCells = false) : Blk (W.putObj l o') g t cs := by
  refine (World.putObj_heap_other (fun e => ?_)).trans h
  subst e
  unfold Blk at h
  rw [h] at hl
  cases hl
  cases ho

set_option maxRecDepth 100000 in
set_option maxHeartbeats 4000000 in
theorem all1_any (n : Int) (x : List UInt8) (W : World) :
    Calls Try.prog 55 #[.int .i64 n, .agg (idC x)] W fun e w' => e = .returned (.bool true) ∧ Below W.heap.size W w' := by
  go_enter Try.func55, Try.ntmps55
  go_wp2_with fail
  go_ret
  exact ⟨rfl, (Below.refl _ W).alloc (Nat.le_refl _) _⟩
set_option maxRecDepth 100000 in
set_option maxHeartbeats 4000000 in
theorem for1_any (n : Int) (x id : List UInt8) (b : Nat) (W : World) (hx : IdOk x) (hid : IdOk id) (hb : Blk W b 24 (idC id)) :
    Calls Try.prog 56 #[.int .i64 n, .agg (idC x), .pointer (some ⟨b, 0, none⟩)] W fun e w' => e = .returned (.bool (x == id)) ∧ Below W.heap.size W w' := by
  have heq := fun W => eql_idv hx hid W
  have hgd := fun x' y W => guard_idv x' y x id W
  obtain ⟨W0, hW0⟩ : ∃ W0, W.alloc (.cells (idC x) 24) = W0 := ⟨_, rfl⟩
  have hb0 : Below W.heap.size W W0 := by rw [← hW0]; exact (Below.refl _ _).alloc (Nat.le_refl _) _
  have k4 : Blk W0 W.heap.size 24 (idC x) := by rw [← hW0]; exact Blk.new _ _ _
  have k2 := hb.below hb0 hb.lt
  have HK4 := Lib.hid k4
  have HK2 := Lib.hid k2
  have HX := Lib.hid hx
  have HID := Lib.hid hid
  have HB0 := Lib.hid hb0
  clear hx hid hb hb0 k4 k2
  go_enter Try.func56, Try.ntmps56
  go_upto_region 1 with fail
  go_wp2_with (first
    | (guard_target = wpList _ _ _ (Oper.mk _ (.load 24 (.tmp 4)) _ _ _ _ :: _) _ _; refine wpList_load_idv rfl _ rfl W.heap.size x rfl HX.out 24 HK4.out ?_)
    | (guard_target = wpList _ _ _ (Oper.mk _ (.load 24 (.tmp 2)) _ _ _ _ :: _) _ _; refine wpList_load_idv rfl _ rfl b id rfl HID.out 24 HK2.out ?_))
  go_ret
  exact ⟨rfl, HB0.out⟩
set_option maxRecDepth 100000 in
set_option maxHeartbeats 4000000 in
theorem tally_all (b1 b2 b3 B M n : Nat) (NN : Nat) (V : Vt) (r k : Int)  (W : World) (hr : wfi r) (hk : wfi k) (hN : NN ≤ 1000) (hI : CastInv b1 b2 b3 B M n NN V r k W)  (cc : Nat) (hcc : ((castL NN V r k).filter (fun _ => true)).length = cc) :
    Calls Try.prog 54 #[.func (.func 67) #[] #[.pointer (some ⟨b1, 0, none⟩), .pointer (some ⟨b2, 0, none⟩), .pointer (some ⟨b3, 0, none⟩)], .func (.func 55) #[] #[]] W fun e w' => e = .returned (.int .i64 (cc : Int)) ∧ Below W.heap.size W w' := by
  have HCC := Lib.hid hcc
  clear hcc
  obtain ⟨W0, hW0⟩ : ∃ W0, (W.alloc (.cells #[.func (.func 55) #[] #[]] 122)).alloc (.cells #[.int .i64 0] 3) = W0 := ⟨_, rfl⟩
  have hb0 : Below W.heap.size W W0 := by rw [← hW0]; exact ((Below.refl _ _).alloc (Nat.le_refl _) _).alloc (by simp) _
  have kh : Blk W0 W.heap.size 122 #[.func (.func 55) #[] #[]] := by rw [← hW0]; exact (Blk.newAt _ _ rfl rfl).alloc _
  have kc : Blk W0 (W.heap.size + 1) 3 #[.int .i64 0] := by rw [← hW0]; exact Blk.newAt _ _ (by simp) rfl
  have hz : W0.heap.size = W.heap.size + 1 + 1 := by rw [← hW0]; simp
  have hi0 : CastInv b1 b2 b3 B M n NN V r k W0 := ⟨hI.1.below hb0, hI.2.below hb0⟩
  have HLT : Hid (B < W.heap.size ∧ M < W.heap.size ∧ b1 < W.heap.size ∧ b2 < W.heap.size ∧ b3 < W.heap.size) := Lib.hid ⟨hI.1.ltB, hI.1.ltM, hI.2.k1.lt, hI.2.k2.lt, hI.2.k3.lt⟩
  have HW := Lib.hid (And.intro hr hk)
  have HLEN : Hid (∀ pre, pre <+: castL NN V r k → (pre.filter (fun x => true)).length ≤ 1000) := Lib.hid fun pre h => by
    have h1 := List.length_filter_le (fun x => true) pre
    have h2 := h.length_le
    rw [castL_all] at h2
    have := allN_le NN V r k
    omega
  have HW0 := Lib.hid hW0
  clear hW0
  refine (callsIn_wide (n := 0)).1 ?_
  refine callsIn_of_wp_marks Try.func54 rfl trivial ?_ rfl
  simp only [Try.ntmps54, List.size_toArray, List.length_cons, List.length_nil, Nat.reduceAdd, Nat.reduceSub, Array.replicate_succ, Array.replicate_zero, List.push_toArray, List.append_toArray, List.nil_append, List.cons_append]
  gi_wp2_with fail
  rw [HW0.out]
  refine wpIn_rangeFunc_D (gf := 67) (lb := #[.pointer (some ⟨b1, 0, none⟩), .pointer (some ⟨b2, 0, none⟩), .pointer (some ⟨b3, 0, none⟩)]) rfl (enters_of Try.func67 (by kernel_rfl) rfl)
    (cast_seq b1 b2 b3 B M n NN V r k (fun b => b = W.heap.size + 1) W0 HW.out.1 HW.out.2 hN) (fun _ => rfl)
    (fun pre W' => Blk W' (W.heap.size + 1) 3 #[.int .i64 ((pre.filter (fun x => true)).length : Int)] ∧ Blk W' W.heap.size 122 #[.func (.func 55) #[] #[]] ∧ CastInv b1 b2 b3 B M n NN V r k W' ∧ Below W.heap.size W W')
    (fun _ _ _ => False)
    (fun s A' B' hs hb => ⟨hs.1.below hb (by omega), hs.2.1.below hb (by omega), ⟨hs.2.2.1.1.same (hb.block _ (by have := HLT.out; omega)) (hb.block _ (by have := HLT.out; omega)), hs.2.2.1.2.same (hb.block _ (by have := HLT.out; omega)) (hb.block _ (by have := HLT.out; omega)) (hb.block _ (by have := HLT.out; omega))⟩, hs.2.2.2.trans (hb.mono (by omega))⟩)
    (fun s W' hs => hs.2.2.1)
    (fun _ _ _ _ hs _ => hs)
    ⟨kc, kh, hi0, hb0⟩
    (fun x a' W' => ∃ Bx, W.heap.size + 2 ≤ Bx ∧ IdOk x.2 ∧ Blk W' Bx 24 (idC x.2) ∧ a' = { tmps := #[.func (.func 67) #[] #[.pointer (some ⟨b1, 0, none⟩), .pointer (some ⟨b2, 0, none⟩), .pointer (some ⟨b3, 0, none⟩)], .func (.func 55) #[] #[], undef, .pointer (some ⟨W.heap.size, 0, none⟩), .int .i64 0, .pointer (some ⟨W.heap.size + 1, 0, none⟩), .int .i64 (x.1 : Int), .pointer (some ⟨Bx, 0, none⟩), .func (.func 67) #[] #[.pointer (some ⟨b1, 0, none⟩), .pointer (some ⟨b2, 0, none⟩), .pointer (some ⟨b3, 0, none⟩)], .int .i64 (x.1 : Int), idv x.2, undef, undef, undef, undef, undef, undef, undef], defers := [] })
    (fun x a' W' l o o' _ h1 h2 h3 => by
      obtain ⟨Bx, q1, q4, q2, q3⟩ := h3
      exact ⟨Bx, q1, q4, q2.putObj o' h1 h2, q3⟩) ?assign ?body ?done ?stop
  case assign =>
    intro l pre x W' K hlt hpre hi hK
    have hxin : x ∈ castL NN V r k := (hpre.subset) (by simp)
    have hxok : IdOk x.2 := (hi.2.2.1.1.ids _ _ _ _ (mem_castL.1 hxin).2).1
    have HI := Lib.hid hi
    have HXO := Lib.hid hxok
    have HSZ := Lib.hid hlt
    have hB0 : ∃ old, Blk (W'.alloc (.cells (Array.replicate 32 (.int .u8 0)) 24)) W'.heap.size 24 old ∧ old.size = 32 := ⟨_, Blk.newAt _ _ rfl rfl, by simp⟩
    clear hi hxin hxok hlt
    simp only [encV]
    gi_wp2_with (first
      | (refine wpListIn_store_idv (fun _ => trivial) rfl _ _ rfl W'.heap.size x.2 rfl rfl HXO.out 24 _ (Blk.newAt _ _ rfl rfl) rfl ?_; intro W5 hS5 hz5 hb5 _ _))
    have hbel : Below W'.heap.size W' W5 := ((Below.refl _ W').alloc (Nat.le_refl _) _).trans hb5
    have hi := HI.out
    exact hK _ _ (keepsFrom_of_below hbel) (.of_below hbel) ⟨hi.1.below hbel hi.1.lt, hi.2.1.below hbel hi.2.1.lt, ⟨hi.2.2.1.1.below hbel, hi.2.2.1.2.below hbel⟩, hi.2.2.2.trans (hbel.mono hi.2.2.2.size)⟩ ⟨W'.heap.size, by have := HSZ.out; omega, HXO.out, hS5, rfl⟩
  case body =>
    rintro l pre x a' W' hl hlt hpre hi ⟨Bx, hBx, hxo, hBk, rfl⟩
    have HI := Lib.hid hi
    have HXO := Lib.hid hxo
    have HBK := Lib.hid hBk
    have HPL := Lib.hid (HLEN.out _ (List.IsPrefix.trans (List.prefix_append pre [x]) hpre))
    have HBX := Lib.hid hBx
    have cF : W'.cell? ⟨W.heap.size, 0, none⟩ = some (.func (.func 55) #[] #[]) := by rw [hi.2.1.cell]; rfl
    clear hi hxo hBk hpre hBx hb0 kh kc hi0
    have HFP : Hid ((pre ++ [x]).filter (fun x => true) = pre.filter (fun x => true) ++ [x].filter (fun x => true)) := Lib.hid (List.filter_append ..)
    obtain ⟨c, hc⟩ : ∃ c, (pre.filter (fun x => true)).length = c := ⟨_, rfl⟩
    have HC := Lib.hid hc
    have hc1 : (c : Int) ≤ 1000 := by have := HPL.out; omega
    have hc0 : (0 : Int) ≤ (c : Int) := by omega
    have STEP : Hid (∀ W6, Below W'.heap.size W' W6 → W6.cell? ⟨W.heap.size + 1, 0, none⟩ = some (.int .i64 (c : Int)) ∧ W6.frozen? ⟨W.heap.size + 1, 0, none⟩ = false) := Lib.hid fun W6 hb => by
      have := HI.out.1.below hb HI.out.1.lt
      rw [HC.out] at this
      exact ⟨by rw [this.cell]; rfl, this.frozen 0⟩
    clear hc
    gi_wp2_with (first
      | (refine wpListIn_load_idv (fun _ => trivial) rfl _ rfl Bx x.2 rfl HXO.out 24 HBK.out ?_)
      | (refine ⟨trivial, rfl, ?_⟩; gi_at_call 55; refine (CallsIn.inRound l (callsIn_wide.2 (all1_any _ x.2 _))).mono ?_; rintro e W6 ⟨rfl, hb6⟩; have HB6 := Lib.hid hb6; obtain ⟨c5, f5⟩ := STEP.out _ hb6; clear hb6))
    have hb6 := HB6.out
    have hi := HI.out
    have k5 := hi.1.below hb6 hi.1.lt
    have e1 : (List.filter (fun x => true) [x]) = [x] := by simp
    refine ⟨keepsFrom_trans (keepsFrom_of_below hb6) (keepsFrom_row k5 (by simp [World.setCell]) (fun b hb => Below.heap_setCell _ _ _ _ hb)), (Keep.of_below hb6).trans (.setCell _ _ _ rfl), ?_, ?_, ?_, ?_⟩
    · rw [HFP.out, e1, List.length_append, HC.out]
      refine (k5.store 0 _).same ?_
      simp
    · exact (hi.2.1.below hb6 hi.2.1.lt).far (by simp) _
    · have h1 := hi.2.2.1.1.below hb6
      have h2 := hi.2.2.1.2.below hb6
      have hne : ∀ b, b < W.heap.size → (W6.setCell ⟨W.heap.size + 1, 0, none⟩ (.int .i64 ((c : Int) + 1))).heap[b]? = W6.heap[b]? := fun b hb => Below.heap_setCell _ _ _ _ (by simp; omega)
      exact ⟨h1.same (hne _ HLT.out.1) (hne _ HLT.out.2.1), h2.same (hne _ HLT.out.2.2.1) (hne _ HLT.out.2.2.2.1) (hne _ HLT.out.2.2.2.2)⟩
    · exact (hi.2.2.2.trans (hb6.mono hi.2.2.2.size)).setCell (by simp) _
  case done =>
    rintro D W' hD ⟨k5, _, _, hb⟩ hK
    have c5 : W'.cell? ⟨W.heap.size + 1, 0, none⟩ = some (.int .i64 (cc : Int)) := by rw [k5.cell, HCC.out]; rfl
    have HB := Lib.hid hb
    have HK := Lib.hid hK
    have HD := Lib.hid hD
    clear hb hK k5 hb0 kh kc hi0 hD
    gi_wp2
    refine ⟨by simp, .inl ⟨_, _, rfl, run_takeDeferred HK.out, ?_⟩⟩
    exact ⟨_, results_tmp rfl _ _ _, rfl, below_putObj HB.out _ (by have := HD.out; omega)⟩
  case stop =>
    rintro D c pre W' _ _ _ h _
    exact h.elim
set_option maxRecDepth 100000 in
set_option maxHeartbeats 4000000 in
theorem tally_for (b1 b2 b3 B M n : Nat) (NN : Nat) (V : Vt) (r k : Int) (id : List UInt8) (b7 : Nat) (W : World) (hr : wfi r) (hk : wfi k) (hN : NN ≤ 1000) (hI : CastInv b1 b2 b3 B M n NN V r k W) (hid : IdOk id) (hb7 : Blk W b7 24 (idC id)) (cc : Nat) (hcc : ((castL NN V r k).filter (fun x => x.2 == id)).length = cc) :
    Calls Try.prog 54 #[.func (.func 67) #[] #[.pointer (some ⟨b1, 0, none⟩), .pointer (some ⟨b2, 0, none⟩), .pointer (some ⟨b3, 0, none⟩)], .func (.func 56) #[] #[.pointer (some ⟨b7, 0, none⟩)]] W fun e w' => e = .returned (.int .i64 (cc : Int)) ∧ Below W.heap.size W w' := by
  have HCC := Lib.hid hcc
  clear hcc
  obtain ⟨W0, hW0⟩ : ∃ W0, (W.alloc (.cells #[.func (.func 56) #[] #[.pointer (some ⟨b7, 0, none⟩)]] 122)).alloc (.cells #[.int .i64 0] 3) = W0 := ⟨_, rfl⟩
  have hb0 : Below W.heap.size W W0 := by rw [← hW0]; exact ((Below.refl _ _).alloc (Nat.le_refl _) _).alloc (by simp) _
  have kh : Blk W0 W.heap.size 122 #[.func (.func 56) #[] #[.pointer (some ⟨b7, 0, none⟩)]] := by rw [← hW0]; exact (Blk.newAt _ _ rfl rfl).alloc _
  have kc : Blk W0 (W.heap.size + 1) 3 #[.int .i64 0] := by rw [← hW0]; exact Blk.newAt _ _ (by simp) rfl
  have hz : W0.heap.size = W.heap.size + 1 + 1 := by rw [← hW0]; simp
  have hi0 : CastInv b1 b2 b3 B M n NN V r k W0 := ⟨hI.1.below hb0, hI.2.below hb0⟩
  have HLT : Hid (B < W.heap.size ∧ M < W.heap.size ∧ b1 < W.heap.size ∧ b2 < W.heap.size ∧ b3 < W.heap.size) := Lib.hid ⟨hI.1.ltB, hI.1.ltM, hI.2.k1.lt, hI.2.k2.lt, hI.2.k3.lt⟩
  have HW := Lib.hid (And.intro hr hk)
  have HLEN : Hid (∀ pre, pre <+: castL NN V r k → (pre.filter (fun x => x.2 == id)).length ≤ 1000) := Lib.hid fun pre h => by
    have h1 := List.length_filter_le (fun x => x.2 == id) pre
    have h2 := h.length_le
    rw [castL_all] at h2
    have := allN_le NN V r k
    omega
  have HW0 := Lib.hid hW0
  clear hW0
  refine (callsIn_wide (n := 0)).1 ?_
  refine callsIn_of_wp_marks Try.func54 rfl trivial ?_ rfl
  simp only [Try.ntmps54, List.size_toArray, List.length_cons, List.length_nil, Nat.reduceAdd, Nat.reduceSub, Array.replicate_succ, Array.replicate_zero, List.push_toArray, List.append_toArray, List.nil_append, List.cons_append]
  gi_wp2_with fail
  rw [HW0.out]
  refine wpIn_rangeFunc_D (gf := 67) (lb := #[.pointer (some ⟨b1, 0, none⟩), .pointer (some ⟨b2, 0, none⟩), .pointer (some ⟨b3, 0, none⟩)]) rfl (enters_of Try.func67 (by kernel_rfl) rfl)
    (cast_seq b1 b2 b3 B M n NN V r k (fun b => b = W.heap.size + 1) W0 HW.out.1 HW.out.2 hN) (fun _ => rfl)
    (fun pre W' => Blk W' (W.heap.size + 1) 3 #[.int .i64 ((pre.filter (fun x => x.2 == id)).length : Int)] ∧ Blk W' W.heap.size 122 #[.func (.func 56) #[] #[.pointer (some ⟨b7, 0, none⟩)]] ∧ CastInv b1 b2 b3 B M n NN V r k W' ∧ Below W.heap.size W W')
    (fun _ _ _ => False)
    (fun s A' B' hs hb => ⟨hs.1.below hb (by omega), hs.2.1.below hb (by omega), ⟨hs.2.2.1.1.same (hb.block _ (by have := HLT.out; omega)) (hb.block _ (by have := HLT.out; omega)), hs.2.2.1.2.same (hb.block _ (by have := HLT.out; omega)) (hb.block _ (by have := HLT.out; omega)) (hb.block _ (by have := HLT.out; omega))⟩, hs.2.2.2.trans (hb.mono (by omega))⟩)
    (fun s W' hs => hs.2.2.1)
    (fun _ _ _ _ hs _ => hs)
    ⟨kc, kh, hi0, hb0⟩
    (fun x a' W' => ∃ Bx, W.heap.size + 2 ≤ Bx ∧ IdOk x.2 ∧ Blk W' Bx 24 (idC x.2) ∧ a' = { tmps := #[.func (.func 67) #[] #[.pointer (some ⟨b1, 0, none⟩), .pointer (some ⟨b2, 0, none⟩), .pointer (some ⟨b3, 0, none⟩)], .func (.func 56) #[] #[.pointer (some ⟨b7, 0, none⟩)], undef, .pointer (some ⟨W.heap.size, 0, none⟩), .int .i64 0, .pointer (some ⟨W.heap.size + 1, 0, none⟩), .int .i64 (x.1 : Int), .pointer (some ⟨Bx, 0, none⟩), .func (.func 67) #[] #[.pointer (some ⟨b1, 0, none⟩), .pointer (some ⟨b2, 0, none⟩), .pointer (some ⟨b3, 0, none⟩)], .int .i64 (x.1 : Int), idv x.2, undef, undef, undef, undef, undef, undef, undef], defers := [] })
    (fun x a' W' l o o' _ h1 h2 h3 => by
      obtain ⟨Bx, q1, q4, q2, q3⟩ := h3
      exact ⟨Bx, q1, q4, q2.putObj o' h1 h2, q3⟩) ?assign ?body ?done ?stop
  case assign =>
    intro l pre x W' K hlt hpre hi hK
    have hxin : x ∈ castL NN V r k := (hpre.subset) (by simp)
    have hxok : IdOk x.2 := (hi.2.2.1.1.ids _ _ _ _ (mem_castL.1 hxin).2).1
    have HI := Lib.hid hi
    have HXO := Lib.hid hxok
    have HSZ := Lib.hid hlt
    have hB0 : ∃ old, Blk (W'.alloc (.cells (Array.replicate 32 (.int .u8 0)) 24)) W'.heap.size 24 old ∧ old.size = 32 := ⟨_, Blk.newAt _ _ rfl rfl, by simp⟩
    clear hi hxin hxok hlt
    simp only [encV]
    gi_wp2_with (first
      | (refine wpListIn_store_idv (fun _ => trivial) rfl _ _ rfl W'.heap.size x.2 rfl rfl HXO.out 24 _ (Blk.newAt _ _ rfl rfl) rfl ?_; intro W5 hS5 hz5 hb5 _ _))
    have hbel : Below W'.heap.size W' W5 := ((Below.refl _ W').alloc (Nat.le_refl _) _).trans hb5
    have hi := HI.out
    exact hK _ _ (keepsFrom_of_below hbel) (.of_below hbel) ⟨hi.1.below hbel hi.1.lt, hi.2.1.below hbel hi.2.1.lt, ⟨hi.2.2.1.1.below hbel, hi.2.2.1.2.below hbel⟩, hi.2.2.2.trans (hbel.mono hi.2.2.2.size)⟩ ⟨W'.heap.size, by have := HSZ.out; omega, HXO.out, hS5, rfl⟩
  case body =>
    rintro l pre x a' W' hl hlt hpre hi ⟨Bx, hBx, hxo, hBk, rfl⟩
    have HI := Lib.hid hi
    have HXO := Lib.hid hxo
    have HBK := Lib.hid hBk
    have HPL := Lib.hid (HLEN.out _ (List.IsPrefix.trans (List.prefix_append pre [x]) hpre))
    have HBX := Lib.hid hBx
    have cF : W'.cell? ⟨W.heap.size, 0, none⟩ = some (.func (.func 56) #[] #[.pointer (some ⟨b7, 0, none⟩)]) := by rw [hi.2.1.cell]; rfl
    clear hi hxo hBk hpre hBx hb0 kh kc hi0
    have HFP : Hid ((pre ++ [x]).filter (fun x => x.2 == id) = pre.filter (fun x => x.2 == id) ++ [x].filter (fun x => x.2 == id)) := Lib.hid (List.filter_append ..)
    obtain ⟨c, hc⟩ : ∃ c, (pre.filter (fun x => x.2 == id)).length = c := ⟨_, rfl⟩
    have HC := Lib.hid hc
    have hc1 : (c : Int) ≤ 1000 := by have := HPL.out; omega
    have hc0 : (0 : Int) ≤ (c : Int) := by omega
    have STEP : Hid (∀ W6, Below W'.heap.size W' W6 → W6.cell? ⟨W.heap.size + 1, 0, none⟩ = some (.int .i64 (c : Int)) ∧ W6.frozen? ⟨W.heap.size + 1, 0, none⟩ = false) := Lib.hid fun W6 hb => by
      have := HI.out.1.below hb HI.out.1.lt
      rw [HC.out] at this
      exact ⟨by rw [this.cell]; rfl, this.frozen 0⟩
    clear hc
    have HB7 := Lib.hid hb7
    have HID := Lib.hid hid
    by_cases hp : (x.2 == id) = true
    · clear hb7 hid
      gi_wp2_with (first
        | (refine wpListIn_load_idv (fun _ => trivial) rfl _ rfl Bx x.2 rfl HXO.out 24 HBK.out ?_)
        | (refine ⟨trivial, rfl, ?_⟩; gi_at_call 56; refine (CallsIn.inRound l (callsIn_wide.2 (for1_any _ x.2 id b7 _ HXO.out HID.out (HB7.out.below (HI.out.2.2.2) HB7.out.lt)))).mono ?_; rw [hp]; rintro e W6 ⟨rfl, hb6⟩; have HB6 := Lib.hid hb6; obtain ⟨c5, f5⟩ := STEP.out _ hb6; clear hb6))
      have hb6 := HB6.out
      have hi := HI.out
      have k5 := hi.1.below hb6 hi.1.lt
      have e1 : (List.filter (fun x => x.2 == id) [x]) = [x] := by simp [hp]
      refine ⟨keepsFrom_trans (keepsFrom_of_below hb6) (keepsFrom_row k5 (by simp [World.setCell]) (fun b hb => Below.heap_setCell _ _ _ _ hb)), (Keep.of_below hb6).trans (.setCell _ _ _ rfl), ?_, ?_, ?_, ?_⟩
      · rw [HFP.out, e1, List.length_append, HC.out]
        refine (k5.store 0 _).same ?_
        simp
      · exact (hi.2.1.below hb6 hi.2.1.lt).far (by simp) _
      · have h1 := hi.2.2.1.1.below hb6
        have h2 := hi.2.2.1.2.below hb6
        have hne : ∀ b, b < W.heap.size → (W6.setCell ⟨W.heap.size + 1, 0, none⟩ (.int .i64 ((c : Int) + 1))).heap[b]? = W6.heap[b]? := fun b hb => Below.heap_setCell _ _ _ _ (by simp; omega)
        exact ⟨h1.same (hne _ HLT.out.1) (hne _ HLT.out.2.1), h2.same (hne _ HLT.out.2.2.1) (hne _ HLT.out.2.2.2.1) (hne _ HLT.out.2.2.2.2)⟩
      · exact (hi.2.2.2.trans (hb6.mono hi.2.2.2.size)).setCell (by simp) _
    · clear hb7 hid
      rw [Bool.not_eq_true] at hp
      gi_wp2_with (first
        | (refine wpListIn_load_idv (fun _ => trivial) rfl _ rfl Bx x.2 rfl HXO.out 24 HBK.out ?_)
        | (refine ⟨trivial, rfl, ?_⟩; gi_at_call 56; refine (CallsIn.inRound l (callsIn_wide.2 (for1_any _ x.2 id b7 _ HXO.out HID.out (HB7.out.below (HI.out.2.2.2) HB7.out.lt)))).mono ?_; rw [hp]; rintro e W6 ⟨rfl, hb6⟩; have HB6 := Lib.hid hb6; clear hb6))
      have hb6 := HB6.out
      have hi := HI.out
      have e1 : (List.filter (fun x => x.2 == id) [x]) = [] := by simp [hp]
      refine ⟨keepsFrom_of_below hb6, Keep.of_below hb6, ?_, ?_, ?_, ?_⟩
      · rw [HFP.out, e1, List.append_nil]
        exact hi.1.below hb6 hi.1.lt
      · exact hi.2.1.below hb6 hi.2.1.lt
      · exact ⟨hi.2.2.1.1.below hb6, hi.2.2.1.2.below hb6⟩
      · exact hi.2.2.2.trans (hb6.mono hi.2.2.2.size)
  case done =>
    rintro D W' hD ⟨k5, _, _, hb⟩ hK
    have c5 : W'.cell? ⟨W.heap.size + 1, 0, none⟩ = some (.int .i64 (cc : Int)) := by rw [k5.cell, HCC.out]; rfl
    have HB := Lib.hid hb
    have HK := Lib.hid hK
    have HD := Lib.hid hD
    clear hb hK k5 hb0 kh kc hi0 hD
    gi_wp2
    refine ⟨by simp, .inl ⟨_, _, rfl, run_takeDeferred HK.out, ?_⟩⟩
    exact ⟨_, results_tmp rfl _ _ _, rfl, below_putObj HB.out _ (by have := HD.out; omega)⟩
  case stop =>
    rintro D c pre W' _ _ _ h _
    exact h.elim
set_option maxRecDepth 100000 in
set_option maxHeartbeats 4000000 in
theorem all_any {W : World} {B M n : Nat} {NN : Nat} {V : Vt} (h : CountAt W B M n NN V) (r k : Int) (hr : wfi r) (hk : wfi k) (hN : NN ≤ 1000) :
    Calls Try.prog 24 #[.pointer (some ⟨B, 0, none⟩), .int .i64 r, .int .i64 k] W fun e w' => e = .returned (.int .i64 (allN NN V r k : Int)) ∧ Below W.heap.size W w' := by
  have HC := Lib.hid h
  have HW := Lib.hid (And.intro hr hk)
  have HN : Hid (((castL NN V r k).filter (fun _ => true)).length = allN NN V r k) := Lib.hid (by rw [List.filter_eq_self.2 (fun _ _ => rfl), castL_all])
  clear h hr hk
  go_enter Try.func24, Try.ntmps24
  go_wp2_with (first
    | (go_at_call 53; refine (cast_any B r k W).mono ?_; rintro e W1 ⟨rfl, hca, hb1⟩; have HCA := Lib.hid hca; have HB1 := Lib.hid hb1; clear hb1 hca)
    | (go_at_call 54; refine (tally_all _ _ _ B M n NN V r k W1 HW.out.1 HW.out.2 hN ⟨HC.out.below HB1.out, HCA.out⟩ _ HN.out).mono ?_; rintro e W2 ⟨rfl, hb2⟩; have HB2 := Lib.hid (HB1.out.trans (hb2.mono HB1.out.size)); clear hb2))
  go_ret
  exact ⟨rfl, HB2.out⟩
set_option maxRecDepth 100000 in
set_option maxHeartbeats 4000000 in
theorem for_any' {W : World} {B M n : Nat} {NN : Nat} {V : Vt} (h : CountAt W B M n NN V) (r k : Int) (id : List UInt8) (hr : wfi r) (hk : wfi k) (hid : IdOk id) (hN : NN ≤ 1000) :
    Calls Try.prog 26 #[.pointer (some ⟨B, 0, none⟩), .int .i64 r, .int .i64 k, .agg (idC id)] W fun e w' => e = .returned (.int .i64 (forN NN V r k id : Int)) ∧ Below W.heap.size W w' := by
  obtain ⟨W0, hW0⟩ : ∃ W0, W.alloc (.cells (idC id) 24) = W0 := ⟨_, rfl⟩
  have hb0 : Below W.heap.size W W0 := by rw [← hW0]; exact (Below.refl _ _).alloc (Nat.le_refl _) _
  have k7 : Blk W0 W.heap.size 24 (idC id) := by rw [← hW0]; exact Blk.new _ _ _
  have HB0 := Lib.hid hb0
  have HK7 := Lib.hid k7
  have HC := Lib.hid (h.below hb0)
  have HW := Lib.hid (And.intro hr hk)
  have HID := Lib.hid hid
  have HN : Hid (((castL NN V r k).filter (fun x => x.2 == id)).length = forN NN V r k id) := Lib.hid (castL_for NN V r k id)
  clear h hr hk hid hb0 k7
  go_enter Try.func26, Try.ntmps26
  go_upto_region 1 with fail
  go_wp2_with (first
    | (go_at_call 53; refine (cast_any B r k W0).mono ?_; rintro e W1 ⟨rfl, hca, hb1⟩; have HCA := Lib.hid hca; have HB1 := Lib.hid hb1; clear hb1 hca)
    | (go_at_call 54; refine (tally_for _ _ _ B M n NN V r k id W.heap.size W1 HW.out.1 HW.out.2 hN ⟨HC.out.below HB1.out, HCA.out⟩ HID.out (HK7.out.below HB1.out HK7.out.lt) _ HN.out).mono ?_; rintro e W2 ⟨rfl, hb2⟩; have HB2 := Lib.hid (HB1.out.trans (hb2.mono HB1.out.size)); clear hb2))
  go_ret
  exact ⟨rfl, HB0.out.trans (HB2.out.mono HB0.out.size)⟩
theorem forV_any {W : World} {B M n : Nat} {NN : Nat} {V : Vt} (h : CountAt W B M n NN V) (r k : Int) (id : List UInt8) (hr : wfi r) (hk : wfi k) (hid : IdOk id) (hN : NN ≤ 1000) :
    Calls Try.prog 26 #[.pointer (some ⟨B, 0, none⟩), .int .i64 r, .int .i64 k, idv id] W fun e w' => e = .returned (.int .i64 (forN NN V r k id : Int)) ∧ Below W.heap.size W w' := for_any' h r k id hr hk hid hN
end Go.Proofs.Ytbgojlcciealiaa
