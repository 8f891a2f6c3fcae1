/-
  The reference's sum, the loop over the rounds of a block.
-/
import Derived.Test.YtkkanaefngggoaaDoorRefW
namespace Go.Proofs.YtkkanaefngggoaaDoor
open Go Go.RowKit
attribute [local go_sem] xor6 and6 or6 not6 not6'

/-- A state of eight words lies in a slice's first cells. -/
def VAt (w : World) (g : Nat) (s : St) : Prop :=
  w.cell? ⟨g, 0, none⟩ = some (u6 s.a) ∧ w.cell? ⟨g, 1, none⟩ = some (u6 s.b) ∧ w.cell? ⟨g, 2, none⟩ = some (u6 s.c) ∧ w.cell? ⟨g, 3, none⟩ = some (u6 s.d) ∧
  w.cell? ⟨g, 4, none⟩ = some (u6 s.e) ∧ w.cell? ⟨g, 5, none⟩ = some (u6 s.f) ∧ w.cell? ⟨g, 6, none⟩ = some (u6 s.g) ∧ w.cell? ⟨g, 7, none⟩ = some (u6 s.h)
theorem VAt.drewN {w : World} {g : Nat} {s : St} (h : VAt w g s) (n : Nat) : VAt (w.drewN n) g s := h
theorem below_drewN {B : Nat} {a w : World} (h : Below B a w) (n : Nat) : Below B a (w.drewN n) := ⟨h.os, h.tape, h.output, h.size, h.block⟩
def InvR (r gk gh : Nat) (S : ByteArray) (j gw : Nat) (s : Nat → W32) (b : Nat → UInt8) (W : World) (n : Nat) (f : Nat → Value) (w : World) : Prop :=
  Loc f r gk gh S j ∧ f 8 = .slice (some ⟨gw, 0, none⟩) 64 64 ∧ ∃ k, k + n = 64 ∧ f 16 = .int .i64 (k : Int) ∧ Below W.heap.size W w ∧ ∃ gv cap, f 15 = .slice (some ⟨gv, 0, none⟩) 8 cap ∧ gh < gv ∧ VAt w gv (rounds s (wv b) k)

set_option maxRecDepth 1000000 in
set_option maxHeartbeats 2000000 in
theorem roundR (Q : Exit → Act → World → Prop) (f : Nat → Value) (r gk gh : Nat) (S : ByteArray) (j gw : Nat) (s : Nat → W32) (b : Nat → UInt8) (W w : World)
    (hK : Blk W gk 100 (arr 64 fun i => u6 (kAt i))) (hW : Blk W gw 100 (arr 64 fun i => u6 (wv b i))) (hgh : gh < W.heap.size)
    (n k : Nat) (hk : k + n = 64) (hlt : k < 64) (h2 : Loc f r gk gh S j) (h8 : f 8 = .slice (some ⟨gw, 0, none⟩) 64 64) (h16 : f 16 = .int .i64 (k : Int)) (hb : Below W.heap.size W w)
    (gv cap : Nat) (h15 : f 15 = .slice (some ⟨gv, 0, none⟩) 8 cap) (hv : VAt w gv (rounds s (wv b) k)) :
    (refLoop 3).wp Tryd.prog (Exit.then (Next 272 (InvR r gk gh S j gw s b W) n) Q) ⟨arr 272 f, []⟩ w := by
  obtain ⟨h2, h3, h4, h5, h6, h7⟩ := h2
  rw [lit272, h2, h3, h4, h5, h6, h7, h8, h15, h16]
  clear h2 h3 h4 h5 h6 h7 h8 h15 h16
  have ck := (hK.below hb hK.lt).cell k
  have cw := (hW.below hb hW.lt).cell k
  rw [arr_get, if_pos hlt] at ck cw
  have HB := Lib.hid hb
  clear hb hK hW
  obtain ⟨st, hst⟩ : ∃ st, rounds s (wv b) k = st := ⟨_, rfl⟩
  have hnx : Hid (rounds s (wv b) (k + 1) = step st (kAt k) (wv b k)) := Lib.hid (by rw [← hst]; rfl)
  rw [hst] at hv
  clear hst
  obtain ⟨a0, b0, c0, d0, e0, f0, g0, h0⟩ := st
  obtain ⟨x, hx⟩ : ∃ x, kAt k = x := ⟨_, rfl⟩
  obtain ⟨y, hy⟩ : ∃ y, wv b k = y := ⟨_, rfl⟩
  have one := one_two ⟨a0, b0, c0, d0, e0, f0, g0, h0⟩ x y
  have two := three_one ⟨a0, b0, c0, d0, e0, f0, g0, h0⟩ x y
  unfold VAt u6 at hv
  unfold u6 at ck cw
  dsimp only at hv one two
  rw [hx] at ck
  rw [hy] at cw
  rw [hx, hy] at hnx
  clear hx hy
  unfold big1 big0 at one
  unfold big1 at two
  obtain ⟨v0, v1, v2, v3, v4, v5, v6, v7⟩ := hv
  have q1 := w_lt h0
  have q2 := w_lt (xo (xo (rr e0 6) (rr e0 11)) (rr e0 25))
  have q3 := w_lt (ro (an e0 f0) (an (no e0) g0))
  have q4 := w_lt x
  have q5 := w_lt y
  have q6 := w_lt (xo (xo (rr a0 2) (rr a0 13)) (rr a0 22))
  have q7 := w_lt (ro (ro (an a0 b0) (an a0 c0)) (an b0 c0))
  have q8 := w_lt d0
  conv => arg 2; whnf
  have l2 : decide ((k : Int) < 64) = true := by simp; omega
  have b1 : (k : Int) < 64 := by omega
  go_wp2
  go_quiet (fail)
  generalize hw1 : w.drewN nq = w1
  have HB1 : Hid (Below W.heap.size W w1) := Lib.hid (by rw [← hw1]; exact below_drewN HB.out nq)
  rw [← World.cell?_drewN (n := nq), hw1] at ck cw v0 v1 v2 v3 v4 v5 v6 v7
  clear hw1 HB
  go_wp2
  go_quiet (fail)
  generalize hw2 : w1.drewN nq = w2
  have HB2 : Hid (Below W.heap.size W w2) := Lib.hid (by rw [← hw2]; exact below_drewN HB1.out nq)
  rw [← World.cell?_drewN (n := nq), hw2] at ck cw v0 v1 v2 v3 v4 v5 v6 v7
  clear hw2 HB1
  go_wp2
  generalize ro (an e0 f0) (an (no e0) g0) = ch at *
  generalize ro (ro (an a0 b0) (an a0 c0)) (an b0 c0) = mj at *
  have ONE := Lib.hid one
  have TWO := Lib.hid two
  clear one two
  obtain ⟨x1, hx1⟩ : ∃ x1, xo (xo (rr e0 6) (rr e0 11)) (rr e0 25) = x1 := ⟨_, rfl⟩
  obtain ⟨x0, hx0⟩ : ∃ x0, xo (xo (rr a0 2) (rr a0 13)) (rr a0 22) = x0 := ⟨_, rfl⟩
  rw [hx1] at q2
  rw [hx0] at q6
  have s1 : IntKind.u64.wrap ((h0.toNat : Int) + (x1.toNat : Int)) = (h0.toNat : Int) + (x1.toNat : Int) := by rw [IntKind.wrap_u64]; omega
  have s2 : IntKind.u64.wrap ((h0.toNat : Int) + (x1.toNat : Int) + (ch.toNat : Int)) = (h0.toNat : Int) + (x1.toNat : Int) + (ch.toNat : Int) := by rw [IntKind.wrap_u64]; omega
  have s3 : IntKind.u64.wrap ((h0.toNat : Int) + (x1.toNat : Int) + (ch.toNat : Int) + (x.toNat : Int)) = (h0.toNat : Int) + (x1.toNat : Int) + (ch.toNat : Int) + (x.toNat : Int) := by rw [IntKind.wrap_u64]; omega
  have s4 : IntKind.u64.wrap ((h0.toNat : Int) + (x1.toNat : Int) + (ch.toNat : Int) + (x.toNat : Int) + (y.toNat : Int)) = (h0.toNat : Int) + (x1.toNat : Int) + (ch.toNat : Int) + (x.toNat : Int) + (y.toNat : Int) := by rw [IntKind.wrap_u64]; omega
  have s5 : IntKind.u64.wrap ((x0.toNat : Int) + (mj.toNat : Int)) = (x0.toNat : Int) + (mj.toNat : Int) := by rw [IntKind.wrap_u64]; omega
  have i0 : (0 : Int) ≤ (k : Int) := by omega
  go_quiet ((go_at_call 65; exact Calls.quiet_of (turn_k _ _ (by omega) (by omega) _)))
  generalize hw3 : w2.drewN nq = w3
  have HB3 : Hid (Below W.heap.size W w3) := Lib.hid (by rw [← hw3]; exact below_drewN HB2.out nq)
  rw [← World.cell?_drewN (n := nq), hw3] at ck cw v0 v1 v2 v3 v4 v5 v6 v7
  clear hw3 HB2
  go_wp2
  go_quiet ((go_at_call 65; exact Calls.quiet_of (turn_k _ _ (by omega) (by omega) _)))
  generalize hw4 : w3.drewN nq = w4
  have HB4 : Hid (Below W.heap.size W w4) := Lib.hid (by rw [← hw4]; exact below_drewN HB3.out nq)
  rw [← World.cell?_drewN (n := nq), hw4] at ck cw v0 v1 v2 v3 v4 v5 v6 v7
  clear hw4 HB3
  go_wp2
  have one := ONE.out
  have two := TWO.out
  rw [hx1, hx0] at one
  rw [hx1] at two
  clear s1 s2 s3 s4 s5 hx1 hx0 ONE TWO ck cw
  obtain ⟨o, ho⟩ : ∃ o, (h0.toNat : Int) + (x1.toNat : Int) + (ch.toNat : Int) + (x.toNat : Int) + (y.toNat : Int) = o := ⟨_, rfl⟩
  obtain ⟨t, ht⟩ : ∃ t, (x0.toNat : Int) + (mj.toNat : Int) = t := ⟨_, rfl⟩
  have o0 : 0 ≤ o := by omega
  have o1 : o < 34359738368 := by omega
  have t0 : 0 ≤ t := by omega
  have t1 : t < 34359738368 := by omega
  rw [ho, ht] at one
  rw [ho] at two
  rw [ho, ht]
  clear ho ht q1 q2 q3 q4 q5 q6 q7
  have r1 : IntKind.u64.wrap (o + t) = o + t := by rw [IntKind.wrap_u64]; omega
  have r2 : IntKind.u64.wrap ((d0.toNat : Int) + o) = (d0.toNat : Int) + o := by rw [IntKind.wrap_u64]; omega
  have r3 : (o + t).tmod 4294967296 = ((step ⟨a0, b0, c0, d0, e0, f0, g0, h0⟩ x y).a.toNat : Int) := by rw [Int.tmod_eq_emod_of_nonneg (by omega)]; exact one
  have r4 : ((d0.toNat : Int) + o).tmod 4294967296 = ((step ⟨a0, b0, c0, d0, e0, f0, g0, h0⟩ x y).e.toNat : Int) := by rw [Int.tmod_eq_emod_of_nonneg (by omega)]; exact two
  obtain ⟨na, hna⟩ : ∃ na, (step ⟨a0, b0, c0, d0, e0, f0, g0, h0⟩ x y).a = na := ⟨_, rfl⟩
  obtain ⟨ne, hne⟩ : ∃ ne, (step ⟨a0, b0, c0, d0, e0, f0, g0, h0⟩ x y).e = ne := ⟨_, rfl⟩
  rw [hna] at one r3
  rw [hne] at two r4
  have HNA := Lib.hid hna
  have HNE := Lib.hid hne
  clear hna hne
  go_wp2
  go_still_tail 30, (by kernel_rfl)
  change wpList _ _ _ _ _ w4.drew
  go_wp2
  have hsz := HB4.out.size
  refine frame_end rfl (n - 1) (by omega) ⟨⟨rfl, rfl, rfl, rfl, rfl, rfl⟩, rfl, k + 1, by omega, by show Value.int .i64 ((k : Int) + 1) = _; go_num, (HB4.out.alloc hsz _).drew, w4.heap.size, 8, rfl, by omega, ?_⟩
  rw [hnx.out]
  refine ⟨((Blk.new w4 _ _).drew.cell 0).trans ?_, ((Blk.new w4 _ _).drew.cell 1).trans ?_, ((Blk.new w4 _ _).drew.cell 2).trans ?_, ((Blk.new w4 _ _).drew.cell 3).trans ?_, ((Blk.new w4 _ _).drew.cell 4).trans ?_, ((Blk.new w4 _ _).drew.cell 5).trans ?_, ((Blk.new w4 _ _).drew.cell 6).trans ?_, ((Blk.new w4 _ _).drew.cell 7).trans ?_⟩
  · rw [← HNA.out]; rfl
  · rfl
  · rfl
  · rfl
  · rw [← HNE.out]; rfl
  · rfl
  · rfl
  · rfl

set_option maxRecDepth 1000000 in
set_option maxHeartbeats 1000000 in
theorem loopR (Q : Exit → Act → World → Prop) (f : Nat → Value) (r gk gh : Nat) (S : ByteArray) (j gw : Nat) (s : Nat → W32) (b : Nat → UInt8) (W : World)
    (hK : Blk W gk 100 (arr 64 fun i => u6 (kAt i))) (hW : Blk W gw 100 (arr 64 fun i => u6 (wv b i))) (hgh : gh < W.heap.size)
    (h0 : InvR r gk gh S j gw s b W 64 f W)
    (hexit : ∀ f' w', InvR r gk gh S j gw s b W 0 f' w' → Q (.exit 6) ⟨arr 272 f', []⟩ w') :
    (Code.loop (refLoop 3)).wp Tryd.prog Q ⟨arr 272 f, []⟩ W := by
  refine wp_loop_frame (InvR r gk gh S j gw s b W) 64 f h0 ?_
  clear h0 f
  intro n f w ⟨h2, h8, k, hk, h16, hb, gv, cap, h15, hlt2, hv⟩
  by_cases h64 : k < 64
  · exact roundR Q f r gk gh S j gw s b W w hK hW hgh n k hk h64 h2 h8 h16 hb gv cap h15 hv
  · obtain rfl : k = 64 := by omega
    obtain rfl : n = 0 := by omega
    obtain ⟨h2, h3, h4, h5, h6, h7⟩ := h2
    rw [lit272, h2, h3, h4, h5, h6, h7, h8, h15, h16]
    clear h2 h3 h4 h5 h6 h7 h8 h15 h16
    have HX := Lib.hid hexit
    have HV := Lib.hid hv
    have HB := Lib.hid hb
    clear hexit hv hb hK hW
    conv => arg 2; whnf
    go_wp2
    exact exit_end rfl HX.out ⟨⟨rfl, rfl, rfl, rfl, rfl, rfl⟩, rfl, 64, rfl, rfl, HB.out, gv, cap, rfl, hlt2, HV.out⟩
end Go.Proofs.YtkkanaefngggoaaDoor
