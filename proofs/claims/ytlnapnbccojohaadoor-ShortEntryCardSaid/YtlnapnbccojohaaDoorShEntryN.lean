/-
  short's Entry: where the path leads to no root; in whatever memory in which the tables lie. No condition.
-/
import Derived.Test.YtlnapnbccojohaaDoorShEntry
namespace Go.Proofs.YtlnapnbccojohaaDoor
open Go Go.RowKit Go.Shelf TreeM

set_option maxRecDepth 100000 in
set_option maxHeartbeats 8000000 in
theorem entryS_no (c : Int) (A : Option Addr) (n cp : Nat) (ps : List (List UInt8)) (Ae : Option Addr) (ne ce : Nat) (entry : List UInt8) (a : Nat) (Av : Option Addr) (nv cv : Nat) (path : List D) (w : World) (hT : Tables w)
    (hn : ps.length = n) (ha : a < n) (hm : n ≤ 1000000) (hc : n ≤ cp) (hl : ∀ p ∈ ps, p.length ≤ 1000000) (hr : RdP w (fun b => b < w.heap.size) A ps) (hne : entry.length = ne) (hle : ne ≤ 1000000) (he : RdB w (fun b => b < w.heap.size) (.slice Ae ne ce) entry)
    (hnv : path.length = nv) (hv70 : nv ≤ 100) (hp : RdI w (fun b => b < w.heap.size) (.slice Av nv cv) path)
    (hv : leadsV c entry (a : Int) (n : Int) path (rootC c ps) = false) :
    Calls Tryd.prog 34 #[.int .i64 c, .slice A n cp, .slice Ae ne ce, .int .i64 (a : Int), .slice Av nv cv] w fun e w' => e = .returned (.tuple #[noPair, .bool false]) ∧ Below w.heap.size w w' := by
  obtain ⟨ad, u0, rfl, _, _, _⟩ := hr a (by omega)
  have HWY : Hid (∀ W, Below w.heap.size w W → Calls Tryd.prog 24 #[.int .i64 c, .slice (some ad) n cp, .int .i64 (a : Int)] W fun e w' => ∃ v', e = .returned (.tuple #[v', .int .i64 0]) ∧ w'.ownsRow W.heap.size 23 32 v' (wayC c ps a).length (idCells (wayC c ps a)) ∧ Below W.heap.size W w') := Lib.hid fun W hb => wayS_in c n ps a (some ad) cp W hn ha hm hc hl (hT.below hb) (hr.oldS hb)
  have HRO : Hid (∀ W, Below w.heap.size w W → Calls Tryd.prog 20 #[.int .i64 c, .slice (some ad) n cp] W fun e w' => e = .returned (.agg (arr 32 fun i => bv (rootC c ps i))) ∧ Below W.heap.size W w') := Lib.hid fun W hb => root_any c n ps (some ad) cp W hn hm hc hl (hT.below hb) (hr.oldS hb)
  have HLE : Hid (∀ W, Below w.heap.size w W → Calls Tryd.prog 29 #[.int .i64 c, .slice Ae ne ce, .int .i64 (a : Int), .int .i64 (n : Int), .slice Av nv cv, .agg (arr 32 fun i => bv (rootC c ps i))] W fun e w' => e = .returned (.bool false) ∧ Below W.heap.size W w') := Lib.hid fun W hb => by
    have := leadsS_any c Ae ne ce entry (a : Int) (n : Int) (.slice Av nv cv) path (rootC c ps) W (hT.below hb) ((he.kept fun a x ha h => (hb.cell (p := a) ha).trans h).mono fun b hb' => Nat.lt_of_lt_of_le hb' hb.size) hne hle ((hp.old hb).mono fun b hb' => Nat.lt_of_lt_of_le hb' hb.size) (by omega)
    rw [hv] at this
    exact this
  generalize wayC c ps a = P at *
  generalize rootC c ps = R at *
  clear hT hn ha hm hc hl hr hne hle he hnv hv70 hp hv
  go_enter Tryd.func34, Tryd.ntmps34
  go_wp2_with fail
  generalize hW : World.alloc w _ = W
  have hb0 : Below w.heap.size w W := by rw [← hW]; exact (Below.refl _ _).alloc (Nat.le_refl _) _
  have k0 : Blk W w.heap.size 62 #[.slice none 0 0, .slice none 0 0] := by rw [← hW]; exact Blk.newAt _ _ rfl rfl
  have HB0 := Lib.hid hb0
  have K0 := Lib.hid k0
  clear hW hb0 k0
  go_wp2_with (first
    | (go_at_call 24; refine (HWY.out _ HB0.out).mono ?_; rintro e W1 ⟨v6, rfl, ho6, hb1⟩; have HB1 := Lib.hid (HB0.out.trans (hb1.mono HB0.out.size)); have J1 := Lib.hid (K0.out.below hb1 K0.out.lt); clear ho6; clear hb1)
    | (go_at_call 20; refine (HRO.out _ HB1.out).mono ?_; rintro e W2 ⟨rfl, hb2⟩; have HB2 := Lib.hid (HB1.out.trans (hb2.mono HB1.out.size)); have J2 := Lib.hid (J1.out.below hb2 J1.out.lt); clear hb2)
    | (go_at_call 29; refine (HLE.out _ HB2.out).mono ?_; rintro e W3 ⟨rfl, hb3⟩; have HBE := Lib.hid (HB2.out.trans (hb3.mono HB2.out.size)); have k10 := J2.out.below hb3 J2.out.lt; clear hb3)
    | (refine wpList_store_arrW rfl 62 _ _ rfl w.heap.size #[.slice none 0 0, .slice none 0 0] rfl rfl 62 _ k10 (by kernel_rfl) rfl (by kernel_rfl) ?_; intro W9 hS9 hz9 hb9 hk9))
  refine bodyPost_ret (results_cell_tmp (p := 10) (q := 11) rfl _ _ w.heap.size 62 _ _ rfl hS9 Tryd.underlying62 rfl (by kernel_rfl)) rfl ?_
  exact ⟨rfl, HBE.out.trans hb9⟩
set_option maxRecDepth 100000 in
set_option maxHeartbeats 8000000 in
theorem entryS_range (c : Int) (A : Option Addr) (n cp : Nat) (ve : Value) (a : Int) (vp : Value) (w : World) (h : a < 0 ∨ (n : Int) ≤ a) :
    Calls Tryd.prog 34 #[.int .i64 c, .slice A n cp, ve, .int .i64 a, vp] w fun e w' => e = .returned (.tuple #[noPair, .bool false]) ∧ Below w.heap.size w w' := by
  have HWY : Hid (∀ W, Calls Tryd.prog 24 #[.int .i64 c, .slice A n cp, .int .i64 a] W fun e w' => e = .returned (.tuple #[.slice none 0 0, .int .i64 1]) ∧ w' = W) := Lib.hid fun W => wayS_range c n a A cp W h
  clear h
  go_enter Tryd.func34, Tryd.ntmps34
  go_wp2_with fail
  generalize hW : World.alloc w _ = W
  have hb0 : Below w.heap.size w W := by rw [← hW]; exact (Below.refl _ _).alloc (Nat.le_refl _) _
  have k0 : Blk W w.heap.size 62 #[.slice none 0 0, .slice none 0 0] := by rw [← hW]; exact Blk.newAt _ _ rfl rfl
  have HB0 := Lib.hid hb0
  have K0 := Lib.hid k0
  clear hW hb0 k0
  go_wp2_with (first
    | (go_at_call 24; refine (HWY.out _).mono ?_; rintro e W1 ⟨rfl, h1⟩; obtain rfl := h1.symm)
    | (refine wpList_store_arrW rfl 62 _ _ rfl w.heap.size #[.slice none 0 0, .slice none 0 0] rfl rfl 62 _ K0.out (by kernel_rfl) rfl (by kernel_rfl) ?_; intro W9 hS9 hz9 hb9 hk9))
  refine bodyPost_ret (results_cell_tmp (p := 10) (q := 11) rfl _ _ w.heap.size 62 _ _ rfl hS9 Tryd.underlying62 rfl (by kernel_rfl)) rfl ?_
  exact ⟨rfl, HB0.out.trans hb9⟩
/-- What Entry answers with: a pair of values, and whether one was found. -/
def PairIs (c : Int) (w W : World) (x y : Value) (b lead : Bool) (own oth : List (List UInt8)) : Prop :=
  (b = false ∧ x = .slice none 0 0 ∧ y = .slice none 0 0 ∧ (lead = true → ∀ i, i < own.length → ¬ Bad c (own.getD i []) (oth.getD i []))) ∨
  (b = true ∧ lead = true ∧ ∃ i, i < own.length ∧ Bad c (own.getD i []) (oth.getD i []) ∧ RdB W (fun b => w.heap.size ≤ b ∧ b < W.heap.size) x (own.getD i []) ∧ RdB W (fun b => w.heap.size ≤ b ∧ b < W.heap.size) y (oth.getD i []))
theorem entryS_all (c : Int) (A : Option Addr) (n cp : Nat) (ps : List (List UInt8)) (Ae : Option Addr) (ne ce : Nat) (entry : List UInt8) (a : Nat) (Av : Option Addr) (nv cv : Nat) (path : List D) (w : World) (hT : Tables w)
    (hn : ps.length = n) (ha : a < n) (hm : n ≤ 1000000) (hc : n ≤ cp) (hl : ∀ p ∈ ps, p.length ≤ 1000000) (hr : RdP w (fun b => b < w.heap.size) A ps) (hne : entry.length = ne) (hle : ne ≤ 1000000) (he : RdB w (fun b => b < w.heap.size) (.slice Ae ne ce) entry)
    (hnv : path.length = nv) (hv70 : nv ≤ 100) (hp : RdI w (fun b => b < w.heap.size) (.slice Av nv cv) path) :
    Calls Tryd.prog 34 #[.int .i64 c, .slice A n cp, .slice Ae ne ce, .int .i64 (a : Int), .slice Av nv cv] w fun e w' => ∃ x y b, e = .returned (.tuple #[.agg #[x, y], .bool b]) ∧ PairIs c w w' x y b (leadsV c entry (a : Int) (n : Int) path (rootC c ps)) (textsP c (stepsB a (n - 1)) (wayC c ps a) (0 :: ps.getD a [])) (textsP c (stepsB a (n - 1)) path (0 :: entry)) ∧ Below w.heap.size w w' := by
  cases hv : leadsV c entry (a : Int) (n : Int) path (rootC c ps) with
  | false =>
    refine (entryS_no c A n cp ps Ae ne ce entry a Av nv cv path w hT hn ha hm hc hl hr hne hle he hnv hv70 hp hv).mono ?_
    rintro e w' ⟨rfl, hb⟩
    exact ⟨_, _, _, rfl, Or.inl ⟨rfl, rfl, rfl, fun h => absurd h (by simp)⟩, hb⟩
  | true =>
    refine (entryS_yes c A n cp ps Ae ne ce entry a Av nv cv path w hT hn ha hm hc hl hr hne hle he hnv hv70 hp hv).mono ?_
    rintro e w' ⟨h | ⟨i, u1, u2, hi, hbad, rfl, h1, h2⟩, hb⟩
    · obtain ⟨rfl, h⟩ := h
      exact ⟨_, _, _, rfl, Or.inl ⟨rfl, rfl, rfl, fun _ => h⟩, hb⟩
    · exact ⟨_, _, _, rfl, Or.inr ⟨rfl, rfl, i, hi, hbad, h1, h2⟩, hb⟩
end Go.Proofs.YtlnapnbccojohaaDoor
