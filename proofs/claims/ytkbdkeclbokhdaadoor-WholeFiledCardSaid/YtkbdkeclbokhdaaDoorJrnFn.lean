/-
  Layer 10: what a journal tells (Len, Last, At); bytes laid on the slab for sure (lay); bytes taken away (cutOff). No condition.
-/
import Derived.Test.YtkbdkeclbokhdaaDoorJrnKit
import Derived.Test.YtkbdkeclbokhdaaDoorConcatJ
namespace Go.Proofs.YtkbdkeclbokhdaaDoor
open Go Go.RowKit Go.Shelf

theorem jrn_open {w : World} {Y : Nat → Prop} {g gd : Nat} {s : JrnS} (h : JrnAt w Y g gd s) : ∃ A c, s.recs.length ≤ c ∧ w.cell? ⟨g, 0, none⟩ = some (.pointer (some ⟨gd, 0, none⟩)) ∧ w.cell? ⟨g, 1, none⟩ = some (.slice A s.recs.length c) ∧ w.rangeAt g 2 (arr 32 fun i => bv (s.last i)).toList ∧
    w.cell? ⟨g, 34, none⟩ = some (.bool s.down) ∧ w.frozen? ⟨g, 34, none⟩ = false ∧ g < w.heap.size ∧ ∀ k, k < s.recs.length → ∃ ad v, A = some ad ∧ w.cell? (ad.add k) = some v ∧ RdB w Y v (s.recs.getD k []) := by
  obtain ⟨v, cs, h1, h2, h3, h4, h5, h6⟩ := h
  obtain ⟨A, c, rfl, hc⟩ := own_len h2
  refine ⟨A, c, hc, by rw [h1.cell, arr_get, if_pos (by omega)]; rfl, by rw [h1.cell, arr_get, if_pos (by omega)]; rfl, fun j x hj => ?_, by rw [h1.cell, arr_get, if_pos (by omega)]; rfl, h1.frozen 34, h6 g h4, fun k hk => ?_⟩
  · rw [Array.getElem?_toList, arr_get] at hj
    split at hj
    · rename_i hj'
      cases hj
      rw [h1.cell, arr_get, if_pos (by omega)]
      rw [Nat.add_comm 2 j]
      show some (if j < 32 then bv (s.last j) else .bool s.down) = _
      rw [if_pos hj']
    · cases hj
  · rcases ownsRow_forms' h2 with ⟨_, h0⟩ | ⟨gr, cap, e⟩
    · omega
    · injection e with e1 e2 e3
      subst e1
      have hcl : cs.length = s.recs.length := by simpa using h2.1
      refine ⟨_, cs.getD k undef, rfl, ?_, (h3 k hk).mono fun i hi => hi.1⟩
      refine h2.cells (g := gr) rfl k _ ?_
      rw [List.getD_eq_getElem?_getD, List.getElem?_eq_getElem (by omega)]
      rfl
set_option maxRecDepth 100000 in
set_option maxHeartbeats 1000000 in
theorem len_any (Y : Nat → Prop) (g gd : Nat) (s : JrnS) (w : World) (h : JrnAt w Y g gd s) : Calls Tryd.prog 24 #[.pointer (some ⟨g, 0, none⟩)] w fun e w' => e = .returned (.int .i64 (s.recs.length : Int)) ∧ w' = w := by
  obtain ⟨A, c, hc, c0, c1, c2, c3, f3, hg, hk⟩ := jrn_open h
  clear h c2 hk
  go_enter Tryd.func24, Tryd.ntmps24
  go_wp2
  go_ret
  exact ⟨rfl, rfl⟩
set_option maxRecDepth 100000 in
set_option maxHeartbeats 1000000 in
theorem at_any (Y : Nat → Prop) (g gd : Nat) (s : JrnS) (k : Nat) (hk0 : k < s.recs.length) (w : World) (h : JrnAt w Y g gd s) : Calls Tryd.prog 26 #[.pointer (some ⟨g, 0, none⟩), .int .i64 (k : Int)] w fun e w' => ∃ A' c', e = .returned (.tuple #[.slice A' (s.recs.getD k []).length c', .int .i64 0]) ∧
    RdB w' (fun b => w.heap.size ≤ b ∧ b < w'.heap.size) (.slice A' (s.recs.getD k []).length c') (s.recs.getD k []) ∧ w'.ownsRow w.heap.size 5 1 (.slice A' (s.recs.getD k []).length c') (s.recs.getD k []).length ((s.recs.getD k []).map bv) ∧ Below w.heap.size w w' := by
  obtain ⟨A, c, hc, c0, c1, c2, c3, f3, hg, hk⟩ := jrn_open h
  obtain ⟨ad, v, rfl, hcell, hrd⟩ := hk k hk0
  have hbl := h.blocks
  obtain ⟨r, hr⟩ : ∃ r, s.recs.getD k [] = r := ⟨_, rfl⟩
  rw [hr] at hrd ⊢
  obtain ⟨Ar, cr, rfl, q1⟩ := id hrd
  have HCL := Lib.hid (clone_any Ar cr r w (hrd.mono hbl))
  have h0' : decide ((k : Int) < 0) = false := decide_eq_false (by omega)
  have h1 : decide ((k : Int) ≥ (s.recs.length : Int)) = false := decide_eq_false (by omega)
  have h2 : (k : Int) < (s.recs.length : Int) := by omega
  clear h c2 hk hrd hbl q1 hr
  go_enter Tryd.func26, Tryd.ntmps26
  go_upto_region 3 with fail
  go_wp2_with (go_at_call 45; refine HCL.out.mono ?_; rintro e w1 ⟨A', c', rfl, hr1, ho1, hb1⟩)
  go_ret2
  exact ⟨A', c', rfl, hr1, ho1, hb1⟩
/-- Bytes behind the others, and all of it sure. -/
def SlabS.lay (s : SlabS) (cs : List UInt8) : SlabS × Int := if (s.app cs).2 = 0 then (s.app cs).1.sync else s.app cs
theorem app_code (s : SlabS) (cs : List UInt8) : (s.app cs).2 = 0 ∨ (s.app cs).2 = 3 ∨ (s.app cs).2 = 90 := by
  unfold SlabS.app
  split
  · exact .inr (.inl rfl)
  · split
    · exact .inr (.inr rfl)
    · exact .inl rfl
theorem Left.trans {Z : Nat → Prop} {g : Nat} {s : SlabS} {w w1 w2 : World} (ht : Turn Z w w1) {Z' : Nat → Prop} (hz : ∀ i, Z' i → Z i ∨ w.heap.size ≤ i) (h2 : Left Z' g s w1 w2) : Left Z g s w w2 := by
  obtain ⟨Z2, h, ht2, hz2⟩ := h2
  refine ⟨Z2, h, ht.trans ht2 (fun i hi h => ?_), fun i hi => ?_⟩
  · rcases hz i h with h | h
    · exact h
    · omega
  · rcases hz2 i hi with h | h
    · exact hz i h
    · exact .inr (Nat.le_trans ht.size h)
set_option maxRecDepth 100000 in
set_option maxHeartbeats 1000000 in
theorem lay_any (Y Z : Nat → Prop) (g gd : Nat) (s : JrnS) (sd : SlabS) (A : Option Addr) (n c : Nat) (bs : List UInt8) (w : World) (h : JrnAt w Y g gd s) (hd : SlabAt w Z gd sd) (hYZ : ∀ i, Y i → ¬ Z i) (hm : bs.length = n) (hr : RdB w (fun i => i < w.heap.size ∧ ¬ Z i) (.slice A n c) bs) :
    Calls Tryd.prog 41 #[.pointer (some ⟨g, 0, none⟩), .slice A n c] w fun e w' => e = .returned (.int .i64 (sd.lay bs).2) ∧ Left Z gd (sd.lay bs).1 w w' := by
  have HH := Lib.hid h
  obtain ⟨Aj, cj, hc, c0, c1, c2, c3, f3, hg, hk⟩ := jrn_open h
  have hgY : Y g := by obtain ⟨v, cs, h1, h2, h3, h4, h5, h6⟩ := h; exact h4
  have HAP := Lib.hid (slabAppend_any Z gd sd _ A n c bs w hd hm hr (fun i hi => hi))
  obtain ⟨e0, he0⟩ : ∃ e0, (sd.app bs).2 = e0 := ⟨_, rfl⟩
  have HE0 := Lib.hid he0
  rw [he0] at HAP
  have HGZ := Lib.hid (hYZ g hgY)
  clear h hd hr c2 hk he0 hYZ
  by_cases hz : e0 = 0
  · subst hz
    have HL : Hid (sd.lay bs = (sd.app bs).1.sync) := Lib.hid (by unfold SlabS.lay; rw [if_pos HE0.out])
    rw [HL.out]
    go_enter Tryd.func41, Tryd.ntmps41
    go_wp2_with (first
      | (go_at_call 28; refine HAP.out.mono ?_; rintro e w1 ⟨rfl, Z1, hs1, ht1, hz1⟩; have c0' := ht1.cell c0 HGZ.out)
      | (go_at_call 59; refine (slabSync_any Z1 gd _ w1 hs1).mono ?_; rintro e w2 ⟨rfl, hl2⟩))
    go_ret
    exact ⟨rfl, Left.trans ht1 hz1 hl2⟩
  · have hz' : (e0 == 0) = false := by simpa using hz
    have HL : Hid (sd.lay bs = ((sd.app bs).1, e0)) := Lib.hid (by unfold SlabS.lay; rw [if_neg (by rw [HE0.out]; exact hz), ← HE0.out])
    rw [HL.out]
    go_enter Tryd.func41, Tryd.ntmps41
    go_wp2_with (go_at_call 28; refine HAP.out.mono ?_; rintro e w1 ⟨rfl, hl1⟩)
    go_ret
    exact ⟨rfl, hl1⟩
set_option maxRecDepth 100000 in
set_option maxHeartbeats 1000000 in
theorem cutOff_zero (gd : Nat) (w : World) : Calls Tryd.prog 34 #[.pointer (some ⟨gd, 0, none⟩), .int .i64 0] w fun e w' => e = .returned (.int .i64 0) ∧ w' = w := by
  go_enter Tryd.func34, Tryd.ntmps34
  go_wp2
  go_ret
  exact ⟨rfl, rfl⟩
set_option maxRecDepth 100000 in
set_option maxHeartbeats 1000000 in
theorem cutOff_any (Z : Nat → Prop) (gd : Nat) (sd : SlabS) (k : Nat) (hk0 : 0 < k) (hk : k ≤ sd.bs.length) (w : World) (hd : SlabAt w Z gd sd) :
    Calls Tryd.prog 34 #[.pointer (some ⟨gd, 0, none⟩), .int .i64 (k : Int)] w fun e w' => e = .returned (.int .i64 (sd.cut ((sd.bs.length - k : Nat) : Int)).2) ∧ Left Z gd (sd.cut ((sd.bs.length - k : Nat) : Int)).1 w w' := by
  have HD := Lib.hid hd
  have h0 : ((k : Int) == 0) = false := by rw [beq_eq_false_iff_ne]; omega
  have hl : sd.bs.length ≤ 4194304 := by obtain ⟨_, _, _, _, _, _, q⟩ := hd; have := q.fits; have := q.room; omega
  obtain ⟨n, hn⟩ : ∃ n, sd.bs.length = n := ⟨_, rfl⟩
  have HN := Lib.hid hn
  have HSZ := Lib.hid (slabSize_any Z gd sd w hd)
  rw [hn] at HSZ hl hk ⊢
  obtain ⟨m, hm⟩ : ∃ m, n - k = m := ⟨_, rfl⟩
  rw [hm]
  have hsub : (n : Int) - (k : Int) = (m : Int) := by omega
  clear hd hn
  go_enter Tryd.func34, Tryd.ntmps34
  go_wp2_with (first
    | (go_at_call 27; refine HSZ.out.mono ?_; rintro e w1 ⟨rfl, hb1⟩)
    | (go_at_call 55; refine (slabCut_any Z gd sd (m : Int) w1 (HD.out.below hb1)).mono ?_; rintro e w2 ⟨rfl, hl2⟩))
  go_ret
  exact ⟨rfl, Left.trans (Turn.of_new hb1 Z) (fun i hi => .inl hi) hl2⟩
end Go.Proofs.YtkbdkeclbokhdaaDoor
