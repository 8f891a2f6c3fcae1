/-
  The slab's contracts as the laws use them: a slab whose blocks lie from B on; what is below B stays. And the guard 'keeps'. No condition.
-/
import Derived.Test.YtnkaapghjgnliaaSlabB
import Derived.Lib.MinMax
namespace Go.Proofs.Ytnkaapghjgnliaa
open Go Go.RowKit Go.Shelf

def SlabIn (w : World) (B g : Nat) (s : SlabS) : Prop := ∃ Z, SlabAt w Z g s ∧ ∀ i, Z i → B ≤ i
theorem SlabIn.below {w w' : World} {B g : Nat} {s : SlabS} (h : SlabIn w B g s) (hb : Below w.heap.size w w') : SlabIn w' B g s := by
  obtain ⟨Z, h1, h2⟩ := h
  exact ⟨Z, h1.below hb, h2⟩
theorem SlabIn.drew {w : World} {B g : Nat} {s : SlabS} (h : SlabIn w B g s) : SlabIn w.drew B g s := h
theorem SlabIn.ok {w : World} {B g : Nat} {s : SlabS} (h : SlabIn w B g s) : s.Ok := by
  obtain ⟨Z, ⟨_, _, _, _, _, _, hs⟩, _⟩ := h
  exact hs
theorem SlabIn.lt {w : World} {B g : Nat} {s : SlabS} (h : SlabIn w B g s) : B ≤ g ∧ g < w.heap.size := by
  obtain ⟨Z, ⟨_, hb, _, hZ, _, _, _⟩, h2⟩ := h
  exact ⟨h2 g hZ, hb.lt⟩
theorem in_of {w w' : World} {Z : Nat → Prop} {B g : Nat} {s' : SlabS} (h : Left Z g s' w w') (hB : B ≤ w.heap.size) (hZ : ∀ i, Z i → B ≤ i) : SlabIn w' B g s' ∧ Below B w w' := by
  obtain ⟨Z', h1, h2, h3⟩ := h
  exact ⟨⟨Z', h1, fun i hi => (h3 i hi).elim (hZ i) fun h => by omega⟩, h2.below hB fun i hi hz => by have := hZ i hz; omega⟩
section
variable {B g : Nat} {s s' : SlabS} {k : Int} {w : World}
theorem new_in (n : Nat) (hn : n ≤ 4194304) (w : World) (hB : B ≤ w.heap.size) :
    Calls Try.prog 9 #[.int .i64 (n : Int)] w fun e w' => e = .returned (.tuple #[.pointer (some ⟨w.heap.size, 0, none⟩), .int .i64 0]) ∧ SlabIn w' B w.heap.size ⟨n, [], 0, -1⟩ ∧ Below w.heap.size w w' :=
  (slabNew_any n hn w).mono fun _ _ ⟨h1, h2, h3⟩ => ⟨h1, ⟨_, h2, fun i hi => by rw [hi]; exact hB⟩, h3⟩
theorem app_in {w0 w1 : World} {ok : Nat → Prop} {A : Option Addr} {m c : Nat} {cs : List UInt8} (h : SlabIn w0 B g s) (hb : Below w0.heap.size w0 w1) (hB : B ≤ w0.heap.size) (hr : RdB w1 ok (.slice A m c) cs)
    (hok : ∀ i, ok i → i < w1.heap.size ∧ (i < B ∨ w0.heap.size ≤ i)) (hm : cs.length = m) (he : s.app cs = (s', k)) :
    Calls Try.prog 12 #[.pointer (some ⟨g, 0, none⟩), .slice A m c] w1 fun e w' => e = .returned (.int .i64 k) ∧ SlabIn w' B g s' ∧ Below B w1 w' := by
  obtain ⟨Z, h1, hZ⟩ := h
  have hlt : ∀ i, Z i → i < w0.heap.size := by obtain ⟨_, _, _, _, _, hlt, _⟩ := h1; exact hlt
  have hs := hb.size
  have := slabAppend_any Z g s ok A m c cs w1 (h1.below hb) hm hr fun i hi => ⟨(hok i hi).1, fun hz => by
    have h1 := hZ i hz
    have h2 := hlt i hz
    rcases (hok i hi).2 with h | h <;> omega⟩
  rw [he] at this
  exact this.mono fun _ _ ⟨e1, e2⟩ => ⟨e1, in_of e2 (by omega) hZ⟩
theorem sync_in (h : SlabIn w B g s) (hB : B ≤ w.heap.size) (he : s.sync = (s', k)) :
    Calls Try.prog 14 #[.pointer (some ⟨g, 0, none⟩)] w fun e w' => e = .returned (.int .i64 k) ∧ SlabIn w' B g s' ∧ Below B w w' := by
  obtain ⟨Z, h1, hZ⟩ := h
  have := slabSync_any Z g s w h1
  rw [he] at this
  exact this.mono fun _ _ ⟨e1, e2⟩ => ⟨e1, in_of e2 hB hZ⟩
theorem cut_in (h : SlabIn w B g s) (hB : B ≤ w.heap.size) (n : Int) (he : s.cut n = (s', k)) :
    Calls Try.prog 16 #[.pointer (some ⟨g, 0, none⟩), .int .i64 n] w fun e w' => e = .returned (.int .i64 k) ∧ SlabIn w' B g s' ∧ Below B w w' := by
  obtain ⟨Z, h1, hZ⟩ := h
  have := slabCut_any Z g s n w h1
  rw [he] at this
  exact this.mono fun _ _ ⟨e1, e2⟩ => ⟨e1, in_of e2 hB hZ⟩
theorem spoil_in (h : SlabIn w B g s) (hB : B ≤ w.heap.size) (n : Int) (x : UInt8) (he : s.spoil n x = (s', k)) :
    Calls Try.prog 22 #[.pointer (some ⟨g, 0, none⟩), .int .i64 n, .int .u8 (x.toNat : Int)] w fun e w' => e = .returned (.int .i64 k) ∧ SlabIn w' B g s' ∧ Below B w w' := by
  obtain ⟨Z, h1, hZ⟩ := h
  have := slabSpoil_any Z g s n x w h1
  rw [he] at this
  exact this.mono fun _ _ ⟨e1, e2⟩ => ⟨e1, in_of e2 hB hZ⟩
theorem crash_in (h : SlabIn w B g s) (hB : B ≤ w.heap.size) (n : Int) (he : s.crash n = s') :
    Calls Try.prog 20 #[.pointer (some ⟨g, 0, none⟩), .int .i64 n] w fun e w' => e = .returned (.tuple #[]) ∧ SlabIn w' B g s' ∧ Below B w w' := by
  obtain ⟨Z, h1, hZ⟩ := h
  have := slabCrash_any Z g s n w h1
  rw [he] at this
  exact this.mono fun _ _ ⟨e1, e2⟩ => ⟨e1, in_of e2 hB hZ⟩
theorem break_in (h : SlabIn w B g s) (hB : B ≤ w.heap.size) (n : Int) (h1 : -9223372036854775808 ≤ n) (h2 : n ≤ 9223372036854775807) (he : s.brk n = s') :
    Calls Try.prog 18 #[.pointer (some ⟨g, 0, none⟩), .int .i64 n] w fun e w' => e = .returned (.tuple #[]) ∧ SlabIn w' B g s' ∧ Below B w w' := by
  obtain ⟨Z, h3, hZ⟩ := h
  have := slabBreak_any Z g s n h1 h2 w h3
  rw [he] at this
  exact this.mono fun _ _ ⟨e1, e2⟩ => ⟨e1, in_of e2 hB hZ⟩
theorem size_in (h : SlabIn w B g s) :
    Calls Try.prog 23 #[.pointer (some ⟨g, 0, none⟩)] w fun e w' => e = .returned (.tuple #[.int .i64 (s.bs.length : Int), .int .i64 (s.sure : Int)]) ∧ SlabIn w' B g s ∧ Below w.heap.size w w' := by
  obtain ⟨Z, h3, hZ⟩ := h
  exact (slabSize_any Z g s w h3).mono fun _ _ ⟨e1, e2⟩ => ⟨e1, ⟨Z, h3.below e2, hZ⟩, e2⟩
/-- The slab's bytes, new, as a string. -/
theorem bytes_in (h : SlabIn w B g s) :
    Calls Try.prog 24 #[.pointer (some ⟨g, 0, none⟩)] w fun e w' => (∃ A c, e = .returned (.slice A s.bs.length c) ∧ w'.ownsRow w.heap.size 5 1 (.slice A s.bs.length c) s.bs.length (s.bs.map bv) ∧
      (convert 32 9 (.slice A s.bs.length c)).run Try.prog w' = .ok (.string ⟨s.bs.toArray⟩) w') ∧ SlabIn w' B g s ∧ Below w.heap.size w w' := by
  have hok := h.ok
  obtain ⟨Z, h3, hZ⟩ := h
  refine (slabBytes_any Z g s w h3).mono ?_
  rintro e w' ⟨A, c, rfl, ho, hb⟩
  have h1 := hok.fits
  have h2 := hok.room
  exact ⟨⟨A, c, rfl, ho, str_rd (own_read ho (by omega))⟩, ⟨Z, h3.below hb, hZ⟩, hb⟩
end
/-- The bytes of a constant. -/
theorem const_rd (w : World) (a b : UInt8) (x y : Int) (hx : x = (a.toNat : Int)) (hy : y = (b.toNat : Int)) : RdB (w.alloc (.cells #[.int .u8 x, .int .u8 y] 5 (2, 3))) (fun i => i = w.heap.size) (.slice (some ⟨w.heap.size, 0, none⟩) 2 2) [a, b] :=
  rdB_cells (n := 2) (fun i hi => by
    have h : (w.alloc (.cells #[.int .u8 x, .int .u8 y] 5 (2, 3))).cell? ⟨w.heap.size, i, none⟩ = (#[.int .u8 x, .int .u8 y] : Array Value)[i]? := cell_of_row _ w.heap.size i _ _ (2, 3) (heap_alloc_new w _)
    rw [h, hx, hy]
    have : i = 0 ∨ i = 1 := by omega
    rcases this with rfl | rfl <;> rfl) rfl (by omega) (by omega) rfl
/-- What two bytes of a constant leave when they are appended. -/
theorem appc_in {w : World} {B g : Nat} {s s' : SlabS} {k : Int} (h : SlabIn w B g s) (hB : B ≤ w.heap.size) (a b : UInt8) (x y : Int) (hx : x = (a.toNat : Int)) (hy : y = (b.toNat : Int)) (he : s.app [a, b] = (s', k)) :
    Calls Try.prog 12 #[.pointer (some ⟨g, 0, none⟩), .slice (some ⟨w.heap.size, 0, none⟩) 2 2] (w.alloc (.cells #[.int .u8 x, .int .u8 y] 5 (2, 3))) fun e w' => e = .returned (.int .i64 k) ∧ SlabIn w' B g s' ∧ Below B w w' := by
  have hb0 : Below w.heap.size w (w.alloc (.cells #[.int .u8 x, .int .u8 y] 5 (2, 3))) := (Below.refl _ _).alloc (Nat.le_refl _) _
  refine (app_in h hb0 hB (const_rd w a b x y hx hy) (fun i hi => ⟨by rw [hi]; simp, .inr (by omega)⟩) rfl he).mono ?_
  rintro e w' ⟨h1, h2, h3⟩
  exact ⟨h1, h2, (hb0.mono hB).trans h3⟩
set_option maxRecDepth 100000 in
set_option maxHeartbeats 2000000 in
theorem keeps_any (w : World) : Calls Try.prog 8 #[] w fun e w' => e = .returned (.bool true) ∧ Below w.heap.size w w' := by
  have kc := fun (w : World) (C : Array Value) (n c : Nat) => Go.Lib.run_convert_bytes_const (P := Try.prog) w 32 5 C n c Try.underlying32 Try.underlying5
  go_enter Try.func8, Try.ntmps8
  go_wp2_with (first
    | (go_at_call 9; refine (new_in (B := w.heap.size) 10 (by omega) _ (Nat.le_refl _)).mono ?_; rintro e w1 ⟨rfl, h1, hb1⟩; have H1 := Lib.hid (And.intro h1 hb1); clear h1 hb1)
    | (go_at_call 12; refine (appc_in (s' := ⟨10, [97, 98], 0, -1⟩) (k := 0) H1.out.1 H1.out.2.size 97 98 _ _ rfl rfl rfl).mono ?_; rintro e w2 ⟨rfl, h2, hb2⟩; have H2 := Lib.hid (And.intro h2 (H1.out.2.trans hb2)); clear h2 hb2 H1)
    | (go_at_call 14; refine (sync_in (s' := ⟨10, [97, 98], 2, -1⟩) (k := 0) H2.out.1 H2.out.2.size rfl).mono ?_; rintro e w3 ⟨rfl, h3, hb3⟩; have H3 := Lib.hid (And.intro h3 (H2.out.2.trans hb3)); clear h3 hb3 H2)
    | (go_at_call 12; refine (appc_in (s' := ⟨10, [97, 98, 99, 100], 2, -1⟩) (k := 0) H3.out.1 H3.out.2.size 99 100 _ _ rfl rfl rfl).mono ?_; rintro e w4 ⟨rfl, h4, hb4⟩; have H4 := Lib.hid (And.intro h4 (H3.out.2.trans hb4)); clear h4 hb4 H3)
    | (go_at_call 20; refine (crash_in (s' := ⟨10, [97, 98, 99], 3, -1⟩) H4.out.1 H4.out.2.size 1 rfl).mono ?_; rintro e w5 ⟨rfl, h5, hb5⟩; have H5 := Lib.hid (And.intro h5 (H4.out.2.trans hb5)); clear h5 hb5 H4)
    | (go_at_call 23; refine (size_in H5.out.1).mono ?_; rintro e w6 ⟨rfl, h6, hb6⟩; have H6 := Lib.hid (And.intro h6 (H5.out.2.trans (hb6.mono H5.out.2.size))); clear h6 hb6 H5)
    | (go_at_call 24; refine (bytes_in H6.out.1).mono ?_; rintro e w7 ⟨⟨A7, c7, rfl, _, hcv⟩, h7, hb7⟩; have hcv3 : (convert 32 9 (.slice A7 3 c7)).run Try.prog w7 = .ok (.string ⟨#[97, 98, 99]⟩) w7 := hcv; clear hcv; have H7 := Lib.hid (H6.out.2.trans (hb7.mono H6.out.2.size)); clear h7 hb7 H6))
  go_ret
  exact ⟨rfl, H7.out⟩
end Go.Proofs.Ytnkaapghjgnliaa
