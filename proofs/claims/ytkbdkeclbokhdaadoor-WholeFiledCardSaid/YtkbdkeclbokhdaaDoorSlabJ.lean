/-
  The slab's functions: for every slab that lies in memory as a slab does, and every argument: what it is behind the call, and which blocks may have turned. No condition.
-/
import Derived.Test.YtkbdkeclbokhdaaDoorQ12
namespace Go.Proofs.YtkbdkeclbokhdaaDoor
open Go Go.RowKit Go.Shelf

structure SlabS where
  room : Nat
  bs : List UInt8
  sure : Nat
  pow : Int
structure SlabS.Ok (s : SlabS) : Prop where
  fits : s.bs.length ≤ s.room
  room : s.room ≤ 4194304
  sure : s.sure ≤ s.bs.length
  lo : -9223372036854775808 ≤ s.pow
  hi : s.pow ≤ 9223372036854775807
def decP (p : Int) : Int := if 0 < p then p - 1 else p
def SlabS.app (s : SlabS) (cs : List UInt8) : SlabS × Int :=
  if s.room - s.bs.length < cs.length then (s, 3) else if s.pow = 0 then (s, 90) else ({ s with bs := s.bs ++ cs, pow := decP s.pow }, 0)
def SlabS.sync (s : SlabS) : SlabS × Int := if s.pow = 0 then (s, 90) else ({ s with sure := s.bs.length, pow := decP s.pow }, 0)
def SlabS.cut (s : SlabS) (k : Int) : SlabS × Int :=
  if k < 0 ∨ (s.bs.length : Int) < k then (s, 1) else if s.pow = 0 then (s, 90) else ({ s with bs := s.bs.take k.toNat, sure := min s.sure k.toNat, pow := decP s.pow }, 0)
def SlabS.left (s : SlabS) (keep : Int) : Nat := s.sure + (min (max keep 0) ((s.bs.length : Int) - s.sure)).toNat
def SlabS.crash (s : SlabS) (keep : Int) : SlabS := { s with bs := s.bs.take (s.left keep), sure := s.left keep, pow := -1 }
def SlabS.brk (s : SlabS) (n : Int) : SlabS := { s with pow := n }
theorem left_le {s : SlabS} (h : s.Ok) (keep : Int) : s.left keep ≤ s.bs.length := by
  have := h.sure
  unfold SlabS.left
  omega
/-- A slab in block g; Z: the blocks that are its own. -/
def SlabAt (w : World) (Z : Nat → Prop) (g : Nat) (s : SlabS) : Prop :=
  ∃ v, Blk w g 76 #[.int .i64 (s.room : Int), v, .int .i64 (s.sure : Int), .int .i64 s.pow] ∧ w.ownsRow 0 5 1 v s.bs.length (s.bs.map bv) ∧ Z g ∧ (∀ i, v.ownBlock = some i → Z i) ∧ (∀ i, Z i → i < w.heap.size) ∧ s.Ok
theorem SlabAt.turn {w w' : World} {Z S : Nat → Prop} {g : Nat} {s : SlabS} (h : SlabAt w Z g s) (ht : Turn S w w') (hs : ∀ i, Z i → ¬ S i) : SlabAt w' Z g s := by
  obtain ⟨v, h1, h2, h3, h4, h5, h6⟩ := h
  exact ⟨v, ht.blk h1 (hs g h3), ht.own h2 (fun i hi => hs i (h4 i hi)), h3, h4, fun i hi => Nat.lt_of_lt_of_le (h5 i hi) ht.size, h6⟩
theorem SlabAt.below {w w' : World} {Z : Nat → Prop} {g : Nat} {s : SlabS} (h : SlabAt w Z g s) (hb : Below w.heap.size w w') : SlabAt w' Z g s := by
  obtain ⟨v, h1, h2, h3, h4, h5, h6⟩ := h
  exact SlabAt.turn ⟨v, h1, h2, h3, h4, h5, h6⟩ (Turn.of_below hb) (fun i hi => by have := h5 i hi; omega)
/-- Its row lies elsewhere. -/
theorem own_ne {w : World} {g n : Nat} {v : Value} {cs : Array Value} {xs : List Value} (hb : Blk w g 76 cs) (ho : w.ownsRow 0 5 1 v n xs) : ∀ i, v.ownBlock = some i → i ≠ g := by
  rintro i hi rfl
  rcases ho.2 with ⟨rfl, _⟩ | ⟨i', cap, cur, rfl, _, h3, _⟩
  · cases hi
  · simp only [Value.ownBlock, Option.some.injEq] at hi
    subst hi
    unfold Blk at hb
    rw [hb] at h3
    have := (Option.some.inj h3)
    injection this with _ e2
    exact absurd e2 (by decide)
/-- What a call leaves. -/
def Left (Z : Nat → Prop) (g : Nat) (s' : SlabS) (w w' : World) : Prop := ∃ Z', SlabAt w' Z' g s' ∧ Turn Z w w' ∧ ∀ i, Z' i → Z i ∨ w.heap.size ≤ i
theorem slab_cells {w : World} {g : Nat} {a b c d : Value} (h : Blk w g 76 #[a, b, c, d]) :
    w.cell? ⟨g, 0, none⟩ = some a ∧ w.cell? ⟨g, 1, none⟩ = some b ∧ w.cell? ⟨g, 2, none⟩ = some c ∧ w.cell? ⟨g, 3, none⟩ = some d ∧ w.frozen? ⟨g, 1, none⟩ = false ∧ w.frozen? ⟨g, 2, none⟩ = false ∧ w.frozen? ⟨g, 3, none⟩ = false :=
  ⟨h.cell 0, h.cell 1, h.cell 2, h.cell 3, h.frozen 1, h.frozen 2, h.frozen 3⟩

set_option maxHeartbeats 400000 in
theorem step_no (g : Nat) (a b c : Value) (w : World) (h : Blk w g 76 #[a, b, c, .int .i64 0]) :
    Calls Tryd.prog 46 #[.pointer (some ⟨g, 0, none⟩)] w fun e w' => e = .returned (.bool false) ∧ w = w' := by
  obtain ⟨_, _, _, c3, _, _, f3⟩ := slab_cells h
  go_enter Tryd.func46, Tryd.ntmps46
  go_wp2
  go_ret
  exact ⟨rfl, rfl⟩
set_option maxHeartbeats 400000 in
theorem step_yes (g : Nat) (a b c : Value) (p : Int) (h0 : p ≠ 0) (hp : p ≤ 9223372036854775807) (w : World) (h : Blk w g 76 #[a, b, c, .int .i64 p]) :
    Calls Tryd.prog 46 #[.pointer (some ⟨g, 0, none⟩)] w fun e w' => e = .returned (.bool true) ∧ Blk w' g 76 #[a, b, c, .int .i64 (decP p)] ∧ Turn (fun i => i = g) w w' := by
  obtain ⟨_, _, _, c3, _, _, f3⟩ := slab_cells h
  have HB := Lib.hid h
  have d0 : (p == 0) = false := by simpa using h0
  clear h h0
  by_cases h1 : 0 < p
  · go_enter Tryd.func46, Tryd.ntmps46
    go_wp2
    go_ret
    refine ⟨rfl, ?_, (Turn.refl (fun i => i = g) w).setCell (p := ⟨g, 3, none⟩) (fun _ => rfl) _⟩
    have := HB.out.store 3 (.int .i64 (p - 1))
    rw [decP, if_pos h1]
    exact this
  · go_enter Tryd.func46, Tryd.ntmps46
    go_wp2
    go_ret
    refine ⟨rfl, ?_, Turn.refl _ _⟩
    rw [decP, if_neg (by omega)]
    exact HB.out
/-! ### What each call leaves -/
theorem left_same {w : World} {Z : Nat → Prop} {g : Nat} {s : SlabS} (h : SlabAt w Z g s) (n : Nat) : Left Z g s w (w.drewN n) := by
  refine ⟨Z, ?_, (Turn.refl _ _).drewN n, fun i hi => .inl hi⟩
  obtain ⟨v, h1, h2, h3⟩ := h
  exact ⟨v, h1, h2, h3⟩
theorem decP_in {p : Int} (h1 : -9223372036854775808 ≤ p) (h2 : p ≤ 9223372036854775807) : -9223372036854775808 ≤ decP p ∧ decP p ≤ 9223372036854775807 := by
  unfold decP
  split <;> omega
theorem turn_g {Z : Nat → Prop} {w w' : World} {g : Nat} (h : Turn (fun i => i = g) w w') (hz : Z g) : Turn Z w w' := h.mono fun i _ e => by rw [e]; exact hz
/-- The append within Append: the row's, behind a step that was done. -/
theorem append_part {Z : Nat → Prop} {g : Nat} {s : SlabS} {ok : Nat → Prop} {A : Option Addr} {m c nq : Nat} {cs : List UInt8} {w w1 : World} {v : Value} (h : SlabAt w Z g s)
    (hb : Blk w g 76 #[.int .i64 (s.room : Int), v, .int .i64 (s.sure : Int), .int .i64 s.pow]) (ho : w.ownsRow 0 5 1 v s.bs.length (s.bs.map bv)) (hZ : Z g ∧ ∀ i, v.ownBlock = some i → Z i)
    (hr : RdB w ok (.slice A m c) cs) (hok : ∀ i, ok i → i < w.heap.size ∧ ¬ Z i) (hm : cs.length = m) (hml : m ≤ 140737488351232) (h1 : s.bs.length ≤ s.room) (h2 : s.room ≤ 4194304)
    (hb1 : Blk w1 g 76 #[.int .i64 (s.room : Int), v, .int .i64 (s.sure : Int), .int .i64 (decP s.pow)]) (ht1 : Turn (fun i => i = g) (w.drewN nq) w1) (hfit : m ≤ s.room) :
    ∃ A2 n2 c2 w2, (Builtin.append_ #[42, 42] 42 #[v, .slice A m c]).run Tryd.prog w1 = .ok (.slice A2 n2 c2) w2 ∧
      Blk w2 g 76 #[.int .i64 (s.room : Int), v, .int .i64 (s.sure : Int), .int .i64 (decP s.pow)] ∧
      (s.Ok → ¬ s.room - s.bs.length < m → Left Z g { s with bs := s.bs ++ cs, pow := decP s.pow } w (w2.setCell ⟨g, 1, none⟩ (.slice A2 n2 c2))) := by
  have ht : Turn (fun i => i = g) w w1 := ⟨ht1.os, ht1.tape, ht1.output, ht1.size, ht1.block⟩
  have ho1 := ht.own ho (fun i hi => own_ne hb ho i hi)
  have hr1 := ht.rd hr (fun b hb' e => (hok b hb').2 (by rw [e]; exact hZ.1))
  obtain ⟨v2, w2, hrun, hown2, hgr, hv2⟩ := app_turn (B := 0) (Nat.zero_le _) ho1 hr1 (by omega)
  obtain ⟨A2, c2, rfl, _⟩ := own_len hown2
  generalize hvv : Value.slice A2 (s.bs.length + m) c2 = v2 at *
  have hb2 := hb1.grown hgr (fun e => own_ne hb ho g e.symm rfl)
  refine ⟨A2, s.bs.length + m, c2, w2, by rw [hvv]; exact hrun, hb2, fun hs hroom => ?_⟩
  rw [hvv]
  have hb3 := hb2.store 1 v2
  have hne2 := own_ne hb2 hown2
  have hown3 : (w2.setCell ⟨g, 1, none⟩ v2).ownsRow 0 5 1 v2 (s.bs.length + m) ((s.bs ++ cs).map bv) :=
    ((Turn.refl (fun i => i = g) w2).setCell (p := ⟨g, 1, none⟩) (fun _ => rfl) _).own hown2 hne2
  have hsz := ht.size
  have hsz2 := hgr.size
  have hlt := h
  obtain ⟨_, _, _, _, _, hlt, _⟩ := hlt
  have hp := decP_in hs.lo hs.hi
  refine ⟨fun i => Z i ∨ (w.heap.size ≤ i ∧ i < w2.heap.size), ⟨v2, hb3, by rw [List.length_append, hm]; exact hown3, .inl hZ.1, fun i hi => ?_, fun i hi => ?_, ⟨?_, hs.room, ?_, hp.1, hp.2⟩⟩, ?_, fun i hi => hi.imp id fun h => h.1⟩
  · rcases hv2 with e | e
    · exact .inl (hZ.2 i (e ▸ hi))
    · have := (hown2.lt i hi).2
      rw [e, Option.some.injEq] at hi
      exact .inr ⟨by omega, by omega⟩
  · rw [World.setCell]
    rcases hi with hi | hi
    · have := hlt i hi
      simp; omega
    · simpa using hi.2
  · show (s.bs ++ cs).length ≤ s.room
    rw [List.length_append]; omega
  · show s.sure ≤ (s.bs ++ cs).length
    have := hs.sure
    rw [List.length_append]; omega
  · exact (((turn_g ht hZ.1).grown hgr (fun k hk _ => hZ.2 k hk))).setCell (fun _ => hZ.1) _
set_option maxHeartbeats 1000000 in
theorem slabAppend_any (Z : Nat → Prop) (g : Nat) (s : SlabS) (ok : Nat → Prop) (A : Option Addr) (m c : Nat) (cs : List UInt8) (w : World) (h : SlabAt w Z g s) (hm : cs.length = m) (hr : RdB w ok (.slice A m c) cs) (hok : ∀ i, ok i → i < w.heap.size ∧ ¬ Z i) :
    Calls Tryd.prog 28 #[.pointer (some ⟨g, 0, none⟩), .slice A m c] w fun e w' => e = .returned (.int .i64 (s.app cs).2) ∧ Left Z g (s.app cs).1 w w' := by
  have h' := h
  obtain ⟨v, hb, ho, hZ, hvZ, hlt, hs⟩ := h'
  obtain ⟨Av, cv, rfl, hcv⟩ := own_len ho
  obtain ⟨c0, c1, c2, c3, f1, f2, f3⟩ := slab_cells hb
  have hml : m ≤ 140737488351232 := by
    obtain ⟨_, _, _, _, h3, _⟩ := hr
    rw [hm] at h3
    exact h3
  have h1 := hs.fits
  have h2 := hs.room
  have h3 := hs.lo
  have h4 := hs.hi
  have HS := Lib.hid h
  have HM := Lib.hid hm
  have HR := Lib.hid hr
  have HOK := Lib.hid hok
  have HB := Lib.hid hb
  have HO := Lib.hid ho
  have HZ := Lib.hid (And.intro hZ hvZ)
  have HSO := Lib.hid hs
  have hroom : 0 ≤ (s.room : Int) - (s.bs.length : Int) := by omega
  clear h hm hr hok hb ho hZ hvZ hlt hs
  by_cases hf : s.room - s.bs.length < m
  · have e1 : s.app cs = (s, 3) := by unfold SlabS.app; rw [HM.out, if_pos hf]
    have HE := Lib.hid e1
    have hlt : (s.room : Int) - (s.bs.length : Int) < (m : Int) := by omega
    clear e1 hf
    rw [HE.out]
    go_enter Tryd.func28, Tryd.ntmps28
    go_wp2
    go_quiet (fail)
    go_wp2
    go_ret
    exact ⟨rfl, left_same HS.out nq⟩
  · have hlt : ¬ (s.room : Int) - (s.bs.length : Int) < (m : Int) := by omega
    by_cases h0 : s.pow = 0
    · have e1 : s.app cs = (s, 90) := by unfold SlabS.app; rw [HM.out, if_neg hf, if_pos h0]
      have HE := Lib.hid e1
      have hb0 := HB.out
      rw [h0] at hb0 c3
      have HB0 := Lib.hid hb0
      clear e1 hf h0 hb0 HB
      rw [HE.out]
      go_enter Tryd.func28, Tryd.ntmps28
      go_wp2
      go_quiet (fail)
      go_wp2_with (go_at_call 46; refine (step_no g _ _ _ _ (HB0.out.drewN _)).mono ?_; rintro e w1 ⟨rfl, rfl⟩)
      go_ret
      exact ⟨rfl, left_same HS.out nq⟩
    · have e1 : s.app cs = ({ s with bs := s.bs ++ cs, pow := decP s.pow }, 0) := by unfold SlabS.app; rw [HM.out, if_neg hf, if_neg h0]
      have HE := Lib.hid e1
      have HP := Lib.hid h0
      have HF := Lib.hid hf
      clear e1 hf h0
      rw [HE.out]
      go_enter Tryd.func28, Tryd.ntmps28
      go_wp2
      go_quiet (fail)
      go_wp2_with (first
        | (go_at_call 46; refine (step_yes g _ _ _ _ HP.out h4 _ (HB.out.drewN _)).mono ?_; rintro e w1 ⟨rfl, hb1, ht1⟩; obtain ⟨A2, n2, c2, w2, hrun, hk⟩ := append_part HS.out HB.out HO.out HZ.out HR.out HOK.out HM.out hml h1 h2 hb1 ht1 (by omega); obtain ⟨_, k1, _, _, _, _, _⟩ := slab_cells hb1; obtain ⟨_, k2, _, _, q2, _, _⟩ := slab_cells hk.1; have HRUN := Lib.hid hrun; have HK := Lib.hid hk; clear hrun hk)
        | (at_builtin; refine wpList_append_run rfl (.tmp 27) (.tmp 28) _ _ rfl _ _ rfl rfl _ _ HRUN.out ?_))
      go_ret
      exact ⟨rfl, HK.out.2 HSO.out HF.out⟩
end Go.Proofs.YtkbdkeclbokhdaaDoor
