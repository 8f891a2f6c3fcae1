/-
  Layer 10: Write. In whatever memory in which the tables read as they are laid. No condition.
-/
import Derived.Test.YtkbdkeclbokhdaaDoorJrnFn
namespace Go.Proofs.YtkbdkeclbokhdaaDoor
open Go Go.RowKit Go.Shelf

/-- A record as it lies on the slab. -/
def recB (a : Nat → UInt8) (d : List UInt8) : List UInt8 := frontB a d.length ++ ((id32 (withD a d)).take 16 ++ d)
theorem recB_length (a : Nat → UInt8) (d : List UInt8) : (recB a d).length = 35 + d.length := by
  unfold recB
  rw [List.length_append, List.length_append, frontB_length, List.length_take, id32_length]
  omega
/-- A record more: the journal, the slab, the error's number. -/
def writeJ (s : JrnS) (sd : SlabS) (d : List UInt8) : JrnS × SlabS × Int :=
  if s.down = true then (s, sd, 90) else if 262144 < d.length then (s, sd, 2) else
    if (sd.lay (recB s.last d)).2 = 0 then ({ s with recs := s.recs ++ [d], last := withD s.last d }, (sd.lay (recB s.last d)).1, 0)
    else if (sd.lay (recB s.last d)).2 = 90 then ({ s with down := true }, (sd.lay (recB s.last d)).1, 90) else (s, (sd.lay (recB s.last d)).1, (sd.lay (recB s.last d)).2)
/-- What a call leaves of a journal and its slab. -/
def BLeft (Y Z : Nat → Prop) (g gd : Nat) (s' : JrnS) (sd' : SlabS) (w w' : World) : Prop :=
  ∃ Y' Z', JrnAt w' Y' g gd s' ∧ SlabAt w' Z' gd sd' ∧ (∀ i, Y' i → ¬ Z' i) ∧ Turn (fun i => Y i ∨ Z i) w w' ∧ (∀ i, Y' i → Y i ∨ w.heap.size ≤ i) ∧ ∀ i, Z' i → Z i ∨ w.heap.size ≤ i
theorem sync_code (s : SlabS) : s.sync.2 = 0 ∨ s.sync.2 = 90 := by
  unfold SlabS.sync
  split
  · exact .inr rfl
  · exact .inl rfl
theorem lay_code (s : SlabS) (bs : List UInt8) : (s.lay bs).2 = 0 ∨ (s.lay bs).2 = 3 ∨ (s.lay bs).2 = 90 := by
  unfold SlabS.lay
  split
  · rcases sync_code (s.app bs).1 with h | h
    · exact .inl h
    · exact .inr (.inr h)
  · exact app_code s bs
/-- The three parts of a record, as a row. -/
theorem rec_rows {B : Nat} {W W1 W2 : World} {A1 A : Option Addr} {c1 c n g5 : Nat} {b1 d : List UInt8} {f : Nat → UInt8} (hB : B ≤ W.heap.size) (hb1 : Below W.heap.size W W1) (hb2 : Below W1.heap.size W1 W2)
    (k2 : Blk W2 W1.heap.size 42 #[.slice A1 19 c1, .slice (some ⟨g5, 0, none⟩) 16 32, .slice A n c]) (hd : RdB W (fun i => i < B) (.slice A n c) d) (k5 : Blk W g5 37 (arr 32 fun i => bv (f i))) (hr1 : RdB W1 (fun i => i < W1.heap.size) (.slice A1 19 c1) b1) :
    RdP W2 (fun i => i < W2.heap.size) (some ⟨W1.heap.size, 0, none⟩) [b1, (id32 f).take 16, d] := by
  have h12 := hb1.trans (hb2.mono hb1.size)
  have s12 := h12.size
  have s2 := hb2.size
  intro k hk
  have : k = 0 ∨ k = 1 ∨ k = 2 := by simp at hk; omega
  rcases this with rfl | rfl | rfl
  · exact ⟨_, _, rfl, k2.lt, by rw [add_zero_block, k2.cell]; rfl, (hr1.kept fun i x hi h => (hb2.cell (p := i) hi).trans h).mono fun i hi => Nat.lt_of_lt_of_le hi s2⟩
  · exact ⟨_, _, rfl, k2.lt, by rw [add_zero_block, k2.cell]; rfl, (rdB_id (ok := fun i => i < W2.heap.size) (k5.below h12 k5.lt) (Nat.lt_of_lt_of_le k5.lt s12)).firsts (by omega)⟩
  · exact ⟨_, _, rfl, k2.lt, by rw [add_zero_block, k2.cell]; rfl, (hd.kept fun i x hi h => (h12.cell (p := i) (Nat.lt_of_lt_of_le hi hB)).trans h).mono fun i hi => Nat.lt_of_lt_of_le hi (Nat.le_trans hB s12)⟩
/-- The slab's change alone. -/
theorem bleft_lay {Y Z : Nat → Prop} {g gd : Nat} {s : JrnS} {sd' : SlabS} {w W W' : World} (h : JrnAt w Y g gd s) (hYZ : ∀ i, Y i → ¬ Z i) (hb : Below w.heap.size w W) (hl : Left Z gd sd' W W') : BLeft Y Z g gd s sd' w W' := by
  obtain ⟨Z', h1, h2, h3⟩ := hl
  refine ⟨Y, Z', (h.below hb).turn h2 hYZ, h1, fun i hi hz => ?_, (Turn.of_new hb _).trans h2 (fun i _ hi => .inr hi), fun i hi => .inl hi, fun i hi => ?_⟩
  · have := h.blocks i hi
    have := hb.size
    rcases h3 i hz with e | e
    · exact hYZ i hi e
    · omega
  · rcases h3 i hi with e | e
    · exact .inl e
    · exact .inr (Nat.le_trans hb.size e)
theorem bleft_add {Y Z Y1 Z1 : Nat → Prop} {g gd : Nat} {s' : JrnS} {sd' : SlabS} {w W W' : World} (h2 : SlabAt W Z1 gd sd') (h3 : ∀ i, Y1 i → ¬ Z1 i) (h4 : Turn (fun i => Y i ∨ Z i) w W) (h5 : ∀ i, Y1 i → Y i ∨ w.heap.size ≤ i) (h6 : ∀ i, Z1 i → Z i ∨ w.heap.size ≤ i) (hj : JLeft Y1 g gd s' W W') : BLeft Y Z g gd s' sd' w W' := by
  obtain ⟨Y2, k1, k2, k3⟩ := hj
  have hz : ∀ i, Z1 i → i < W.heap.size := by obtain ⟨_, _, _, _, _, hlt, _⟩ := h2; exact hlt
  refine ⟨Y2, Z1, k1, h2.turn k2 (fun i hi hy => h3 i hy hi), fun i hy hi => ?_, h4.trans k2 (fun i hi hy => ?_), fun i hi => ?_, h6⟩
  · rcases k3 i hy with e | e
    · exact h3 i e hi
    · have := hz i hi
      omega
  · rcases h5 i hy with e | e
    · exact .inl e
    · omega
  · rcases k3 i hi with e | e
    · exact h5 i e
    · exact .inr (Nat.le_trans h4.size e)
theorem jrn_down {Y : Nat → Prop} {g gd : Nat} {s : JrnS} {w : World} (h : JrnAt w Y g gd s) (b : Bool) : JLeft Y g gd { s with down := b } w (w.setCell ⟨g, 34, none⟩ (.bool b)) := by
  obtain ⟨v, cs, h1, h2, h3, h4, h5, h6⟩ := h
  have ht : Turn (fun i => i = g) w (w.setCell ⟨g, 34, none⟩ (.bool b)) := (Turn.refl (fun i => i = g) w).setCell (p := ⟨g, 34, none⟩) (fun _ => rfl) _
  refine ⟨Y, ⟨v, cs, by have := h1.store 34 (.bool b); rw [jF_set34] at this; exact this, ht.own h2 (fun i hi e => (h5 i hi).2 e), fun k hk => ht.rd (h3 k hk) (fun i hi e => hi.2.1 e), h4, h5, fun i hi => Nat.lt_of_lt_of_le (h6 i hi) ht.size⟩, ht.mono (fun i _ e => e ▸ h4), fun i hi => .inl hi⟩
set_option maxRecDepth 100000 in
set_option maxHeartbeats 4000000 in
theorem write_any (Y Z : Nat → Prop) (g gd : Nat) (s : JrnS) (sd : SlabS) (A : Option Addr) (n c : Nat) (d : List UInt8) (w : World) (hT : Tables w) (h : JrnAt w Y g gd s) (hd : SlabAt w Z gd sd) (hYZ : ∀ i, Y i → ¬ Z i) (hn : s.recs.length < 100000000) (hr : RdB w (fun i => i < w.heap.size ∧ ¬ Z i) (.slice A n c) d) :
    Calls Tryd.prog 16 #[.pointer (some ⟨g, 0, none⟩), .slice A n c] w fun e w' => e = .returned (.int .i64 (writeJ s sd d).2.2) ∧ BLeft Y Z g gd (writeJ s sd d).1 (writeJ s sd d).2.1 w w' := by
  have hm : d.length = n := by
    obtain ⟨_, _, hv, _⟩ := hr
    injection hv with e1 e2 e3
    exact e2.symm
  have HH := Lib.hid h
  have HD := Lib.hid hd
  have HYZ := Lib.hid hYZ
  have HM := Lib.hid hm
  have hgY : Y g := by obtain ⟨v, cs, h1, h2, h3, h4, h5, h6⟩ := h; exact h4
  have HGZ := Lib.hid (hYZ g hgY)
  have HT := Lib.hid hT
  have HRd := Lib.hid hr
  have HNN := Lib.hid hn
  have HB0 : Hid (BLeft Y Z g gd s sd w w) := Lib.hid ⟨Y, Z, h, hd, hYZ, Turn.refl _ _, fun i hi => .inl hi, fun i hi => .inl hi⟩
  obtain ⟨Aj, cj, hc, c0, c1, c2, c3, f3, hg, hk⟩ := jrn_open h
  obtain ⟨dn, hdn⟩ : ∃ dn, s.down = dn := ⟨_, rfl⟩
  rw [hdn] at c3
  have HDN := Lib.hid hdn
  clear h hd hr hk hT hm hdn hYZ hn
  cases dn
  · by_cases hl : 262144 < n
    · have HW : Hid (writeJ s sd d = (s, sd, 2)) := Lib.hid (by unfold writeJ; rw [HDN.out, if_neg (by decide), if_pos (by rw [HM.out]; exact hl)])
      have hl' : decide ((n : Int) > 262144) = true := decide_eq_true (by omega)
      clear c2
      rw [HW.out]
      go_enter Tryd.func16, Tryd.ntmps16
      go_wp2
      go_ret
      exact ⟨rfl, HB0.out⟩
    · have hl' : decide ((n : Int) > 262144) = false := decide_eq_false (by omega)
      have HN24 : Hid (n < 16777216) := Lib.hid (by omega)
      have HRL : Hid ([frontB s.last n, (id32 (withD s.last d)).take 16, d].flatten.length ≤ 1099511627776) := Lib.hid (by
        have : [frontB s.last n, (id32 (withD s.last d)).take 16, d].flatten = recB s.last d := by unfold recB; rw [HM.out]; simp
        rw [this, recB_length, HM.out]
        omega)
      have HREC : Hid ([frontB s.last n, (id32 (withD s.last d)).take 16, d].flatten = recB s.last d) := Lib.hid (by unfold recB; rw [HM.out]; simp)
      have HWI := Lib.hid (with_any s.last A n c d HM.out (by omega) w HT.out (HRd.out.mono fun i hi => hi.1))
      obtain ⟨f, hf⟩ : ∃ f, withD s.last d = f := ⟨_, rfl⟩
      rw [hf] at HWI HRL HREC
      have HF := Lib.hid hf
      clear hf
      go_enter Tryd.func16, Tryd.ntmps16
      go_upto_region 5 with fail
      go_wp2_with (first
        | (refine wpList_load_mid rfl 37 _ rfl g 2 rfl _ _ c2 Tryd.underlying37 rfl (by rw [Array.length_toList, arr_size]; kernel_rfl) ?_)
        | (go_at_call 40; refine HWI.out.mono ?_; rintro e w1 ⟨rfl, hb1⟩)
        | (refine wpList_store_row rfl 37 _ _ rfl w1.heap.size (arr 32 fun i => bv (f i)) rfl rfl 37 _ (heap_alloc_new w1 _) (by rw [arr_size]; kernel_rfl) (by rw [arr_size]; rfl) (arr_all_bv _ _) ?_; rw [World.setRow_alloc_new]))
      generalize hW : World.alloc w1 _ = W
      have hbW : Below w.heap.size w W := by rw [← hW]; exact hb1.alloc hb1.size _
      have HK5 : Hid (Blk W w1.heap.size 37 (arr 32 fun i => bv (f i))) := Lib.hid (by rw [← hW]; exact Blk.newAt _ _ rfl rfl)
      have CR : Hid (W.rangeAt g 2 (arr 32 fun i => bv (s.last i)).toList) := Lib.hid fun j x hj => (hbW.cell (p := ⟨g, 2 + j, none⟩) hg).trans (c2 j x hj)
      have HR : Hid (RdB W (fun i => i < w.heap.size) (.slice A n c) d) := Lib.hid ((HRd.out.mono fun i hi => hi.1).kept fun i x hi h => (hbW.cell (p := i) hi).trans h)
      have HTW := Lib.hid (HT.out.below hbW)
      have HN5 : Hid (¬ Z w1.heap.size) := Lib.hid fun hz => by
        obtain ⟨_, _, _, _, _, hlt, _⟩ := HD.out
        have := hlt _ hz
        have := hb1.size
        omega
      have HBW := Lib.hid hbW
      obtain ⟨bs, hbs⟩ : ∃ bs, recB s.last d = bs := ⟨_, rfl⟩
      obtain ⟨m, hm⟩ : ∃ m, 35 + n = m := ⟨_, rfl⟩
      have HBL : Hid (bs.length = m) := Lib.hid (by rw [← hbs, recB_length, HM.out, hm])
      rw [hbs] at HREC
      have HBS := Lib.hid hbs
      have HCO : Hid (∀ W2 Ap cp, RdP W2 (fun i => i < W2.heap.size) Ap [frontB s.last n, (id32 f).take 16, d] → Calls Tryd.prog 42 #[.slice Ap 3 cp] W2 fun e w' => ∃ A' c', e = .returned (.slice A' m c') ∧ RdB w' (fun i => W2.heap.size ≤ i ∧ i < w'.heap.size) (.slice A' m c') bs ∧ Below W2.heap.size W2 w') := Lib.hid fun W2 Ap cp hp => by
        refine (callsIn_wide.1 (concat_any Ap cp [frontB s.last n, (id32 f).take 16, d] (by simp) HRL.out W2 hp)).mono ?_
        rintro e w' ⟨v, rfl, ho, hb⟩
        rw [HREC.out, HBL.out] at ho
        obtain ⟨A', c', hv, _⟩ := own_len ho
        subst hv
        exact ⟨A', c', rfl, rdB_own ho HBL.out (by omega), hb⟩
      obtain ⟨cd, hcd⟩ : ∃ cd, (sd.lay bs).2 = cd := ⟨_, rfl⟩
      obtain ⟨sd1, hs1⟩ : ∃ sd1, (sd.lay bs).1 = sd1 := ⟨_, rfl⟩
      have HCC : Hid (cd = 0 ∨ cd = 3 ∨ cd = 90) := Lib.hid (by rw [← hcd]; exact lay_code _ _)
      have HLAY : Hid (∀ W3 A3 c3, Below W.heap.size W W3 → RdB W3 (fun i => W.heap.size ≤ i ∧ i < W3.heap.size) (.slice A3 m c3) bs → Calls Tryd.prog 41 #[.pointer (some ⟨g, 0, none⟩), .slice A3 m c3] W3 fun e w' => e = .returned (.int .i64 cd) ∧ Left Z gd sd1 W3 w') := Lib.hid fun W3 A3 c3 hb hr => by
        have := lay_any Y Z g gd s sd A3 m c3 bs W3 (HH.out.below (HBW.out.trans (hb.mono HBW.out.size))) (HD.out.below (HBW.out.trans (hb.mono HBW.out.size))) HYZ.out HBL.out (hr.mono fun i hi => ⟨hi.2, fun hz => by
          obtain ⟨_, _, _, _, _, hlt, _⟩ := HD.out
          have := hlt _ hz
          have := HBW.out.size
          omega⟩)
        rw [hcd, hs1] at this
        exact this
      have HFIN : Hid (∀ W3 W4, Below W.heap.size W W3 → Left Z gd sd1 W3 W4 → BLeft Y Z g gd s sd1 w W4) := Lib.hid fun W3 W4 hb hl => bleft_lay HH.out HYZ.out (HBW.out.trans (hb.mono HBW.out.size)) hl
      have HWJ : Hid (writeJ s sd d = if cd = 0 then ({ s with recs := s.recs ++ [d], last := f }, sd1, 0) else if cd = 90 then ({ s with down := true }, sd1, 90) else (s, sd1, cd)) := Lib.hid (by
        unfold writeJ
        rw [HDN.out, if_neg (by decide), if_neg (by rw [HM.out]; exact hl), HF.out, HBS.out, hcd, hs1])
      have hbB : Below W.heap.size W W.drew := (Below.refl _ _).drew
      have hbX : Turn Z W W.drew := Turn.of_new hbB Z
      clear hW hb1 hbs hcd hs1 c2 HWI hl hm
      refine wp_region_held_drew (S := fun W4 => Turn Z W W4) (by kernel_rfl) ?_ (fun hHeld => ?_)
      · exact hbX
      refine wpAnyH_take (i := 0) (oi := ⟨some 22, _, _, _, _, _⟩) (v := ?_) rfl (by kernel_rfl) (by kernel_rfl) (by kernel_rfl) (fun _ _ _ h => h) (Or.inl ⟨by rfl, ?_⟩) (by assumption) ?_
      rotate_left
      · intro w hSw; (try dsimp only at hSw); go_simp; try (with_reducible rfl)
      rotate_left 0
      try simp only [Act.put, List.setIfInBounds_toArray, List.set_cons_zero, List.set_cons_succ]
      refine wpAnyH_take (i := 1) (oi := ⟨some 23, _, _, _, _, _⟩) (v := ?_) rfl (by kernel_rfl) (by kernel_rfl) (by kernel_rfl) (fun _ _ _ h => h) (Or.inl ⟨by rfl, ?_⟩) (by assumption) ?_
      rotate_left
      · intro w hSw; (try dsimp only at hSw); go_simp; try (with_reducible rfl)
      rotate_left 0
      try simp only [Act.put, List.setIfInBounds_toArray, List.set_cons_zero, List.set_cons_succ]
      refine wpAnyH_take (i := 2) (oi := ⟨some 24, _, _, _, _, _⟩) (v := ?_) rfl (by kernel_rfl) (by kernel_rfl) (by kernel_rfl) (fun _ _ _ h => h) (Or.inl ⟨by rfl, ?_⟩) (by assumption) ?_
      rotate_left
      · intro w hSw; (try dsimp only at hSw); go_simp; try (with_reducible rfl)
      rotate_left 0
      try simp only [Act.put, List.setIfInBounds_toArray, List.set_cons_zero, List.set_cons_succ]
      refine wpAnyH_take (i := 3) (oi := ⟨some 25, _, _, _, _, _⟩) (v := ?_) rfl (by kernel_rfl) (by kernel_rfl) (by kernel_rfl) (fun _ _ _ h => h) (Or.inl ⟨by rfl, ?_⟩) (by assumption) ?_
      rotate_left
      · intro w hSw; (try dsimp only at hSw); go_simp; try (with_reducible rfl)
      rotate_left 0
      try simp only [Act.put, List.setIfInBounds_toArray, List.set_cons_zero, List.set_cons_succ]
      refine wpAnyH_take (i := 4) (oi := ⟨some 26, _, _, _, _, _⟩) (v := (.agg (arr 32 fun i => bv (s.last i)))) rfl (by kernel_rfl) (by kernel_rfl) (by kernel_rfl) (fun _ _ _ h => h) (yieldsIf_load_mid (by rfl) 37 _ rfl g 2 rfl (arr 32 fun i => bv (s.last i)).toList _ (fun W' hS j x hj => hS.cell (CR.out j x hj) HGZ.out) Tryd.underlying37 rfl (by rw [Array.length_toList, arr_size]; kernel_rfl)) (by assumption) ?_
      try simp only [Act.put, List.setIfInBounds_toArray, List.set_cons_zero, List.set_cons_succ]
      refine wpAnyH_take (i := 5) (oi := ⟨some 27, _, _, _, _, _⟩) (v := ?_) rfl (by kernel_rfl) (by kernel_rfl) (by kernel_rfl) (fun _ _ _ h => h) (Or.inl ⟨by rfl, ?_⟩) (by assumption) ?_
      rotate_left
      · intro w hSw; (try dsimp only at hSw); go_simp; try (with_reducible rfl)
      rotate_left 0
      try simp only [Act.put, List.setIfInBounds_toArray, List.set_cons_zero, List.set_cons_succ]
      refine wpAnyH_take (i := 6) (oi := ⟨some 28, _, _, _, _, _⟩) (v := ?_) rfl (by kernel_rfl) (by kernel_rfl) (by kernel_rfl) (fun _ _ _ h => h) (Or.inl ⟨by rfl, ?_⟩) (by assumption) ?_
      rotate_left
      · intro w hSw; (try dsimp only at hSw); go_simp; try (with_reducible rfl)
      rotate_left 0
      try simp only [Act.put, List.setIfInBounds_toArray, List.set_cons_zero, List.set_cons_succ]
      refine wpAnyH_take (i := 8) (oi := ⟨some 30, _, _, _, _, _⟩) (v := ?_) rfl (by kernel_rfl) (by kernel_rfl) (by kernel_rfl) (fun _ _ _ h => h) (Or.inl ⟨by rfl, ?_⟩) (by assumption) ?_
      rotate_left
      · intro w hSw; (try dsimp only at hSw); go_simp; try (with_reducible rfl)
      rotate_left 0
      try simp only [Act.put, List.setIfInBounds_toArray, List.set_cons_zero, List.set_cons_succ]
      refine wpAnyH_take (i := 9) (oi := ⟨some 31, _, _, _, _, _⟩) (v := ?_) rfl (by kernel_rfl) (by kernel_rfl) (by kernel_rfl) (fun _ _ _ h => h) (Or.inl ⟨by rfl, ?_⟩) (by assumption) ?_
      rotate_left
      · intro w hSw; (try dsimp only at hSw); go_simp; try (with_reducible rfl)
      rotate_left 0
      try simp only [Act.put, List.setIfInBounds_toArray, List.set_cons_zero, List.set_cons_succ]
      refine wpAnyH_ready (rs := [7]) (by kernel_rfl) (by simp) ?_
      refine (AllReadyH.cons (o := ⟨some 29, _, _, _, _, _⟩) rfl (fun K hK => ?_) AllReadyH.nil)
      (try rw [if_pos (by rfl)])
      go_simp
      refine (front_any s.last n HN24.out _ (HTW.out.below hbB)).mono ?_
      rintro e W1 ⟨A1, c1', rfl, hr1, ho1, hb1⟩
      replace hr1 := hr1.mono (ok' := fun i => i < W1.heap.size) (fun i hi => hi.2)
      clear ho1
      have hbB1 := hbB.trans (hb1.mono hbB.size)
      have hbX : Turn Z W W1 := Turn.of_new hbB1 Z
      try dsimp only
      refine hK.out _ _ (hbX) (fun hHeld => ?_)
      clear hK K
      try simp only [Act.put, List.setIfInBounds_toArray, List.set_cons_zero, List.set_cons_succ]
      refine wpAnyH_ready (rs := [10]) (by kernel_rfl) (by simp) ?_
      refine (AllReadyH.cons (o := ⟨some 32, _, _, _, _, _⟩) rfl (fun K hK => ?_) AllReadyH.nil)
      (try rw [if_pos (by rfl)])
      go_simp
      have hb2 : Below W1.heap.size W1 (W1.alloc (.cells #[.slice A1 19 c1', .slice (some ⟨w1.heap.size, 0, none⟩) 16 32, .slice A n c] 42)) := (Below.refl _ _).alloc (Nat.le_refl _) _
      have k2 : Blk (W1.alloc (.cells #[.slice A1 19 c1', .slice (some ⟨w1.heap.size, 0, none⟩) 16 32, .slice A n c] 42)) W1.heap.size 42 #[.slice A1 19 c1', .slice (some ⟨w1.heap.size, 0, none⟩) 16 32, .slice A n c] := Blk.newAt _ _ rfl rfl
      have hbB2 := hbB1.trans (hb2.mono hbB1.size)
      have HRP := Lib.hid (rec_rows HBW.out.size hbB1 hb2 k2 HR.out HK5.out hr1)
      clear hr1
      have hbX : Turn Z W (W1.alloc (.cells #[.slice A1 19 c1', .slice (some ⟨w1.heap.size, 0, none⟩) 16 32, .slice A n c] 42)) := Turn.of_new hbB2 Z
      generalize World.alloc W1 (.cells #[.slice A1 19 c1', .slice (some ⟨w1.heap.size, 0, none⟩) 16 32, .slice A n c] 42) = W2 at *
      try dsimp only
      refine hK.out _ _ (hbX) (fun hHeld => ?_)
      clear hK K
      try simp only [Act.put, List.setIfInBounds_toArray, List.set_cons_zero, List.set_cons_succ]
      refine wpAnyH_ready (rs := [11]) (by kernel_rfl) (by simp) ?_
      refine (AllReadyH.cons (o := ⟨some 33, _, _, _, _, _⟩) rfl (fun K hK => ?_) AllReadyH.nil)
      (try rw [if_pos (by rfl)])
      go_simp
      refine (HCO.out W2 _ _ HRP.out).mono ?_
      rintro e W3 ⟨A3, c3', rfl, hr3, hb3⟩
      have hbB3 := hbB2.trans (hb3.mono hbB2.size)
      have HRC := Lib.hid hr3
      clear hr3
      have hbX : Turn Z W W3 := Turn.of_new hbB3 Z
      try dsimp only
      refine hK.out _ _ (hbX) (fun hHeld => ?_)
      clear hK K
      try simp only [Act.put, List.setIfInBounds_toArray, List.set_cons_zero, List.set_cons_succ]
      refine wpAnyH_ready (rs := [12]) (by kernel_rfl) (by simp) ?_
      refine (AllReadyH.cons (o := ⟨some 34, _, _, _, _, _⟩) rfl (fun K hK => ?_) AllReadyH.nil)
      (try rw [if_pos (by rfl)])
      go_simp
      refine (HLAY.out W3 A3 c3' hbB3 (HRC.out.mono fun i hi => ⟨Nat.le_trans hbB2.size hi.1, hi.2⟩)).mono ?_
      rintro e W4 ⟨rfl, hl4⟩
      have hbX : Turn Z W W4 := (Turn.of_new hbB3 Z).trans (by obtain ⟨Z4, h41, h42, h43⟩ := hl4; exact h42) (fun i _ h => h)
      have HL4 := Lib.hid (And.intro hl4 hbB3)
      clear hl4
      try dsimp only
      refine hK.out _ _ (hbX) (fun hHeld => ?_)
      clear hK K
      try simp only [Act.put, List.setIfInBounds_toArray, List.set_cons_zero, List.set_cons_succ]
      refine wpAnyH_take (i := 13) (oi := ⟨some 6, _, _, _, _, _⟩) (v := ?_) rfl (by kernel_rfl) (by kernel_rfl) (by kernel_rfl) (fun _ _ _ h => h) (Or.inl ⟨by rfl, ?_⟩) (by assumption) ?_
      rotate_left
      · intro w hSw; (try dsimp only at hSw); go_simp; try (with_reducible rfl)
      rotate_left 0
      try simp only [Act.put, List.setIfInBounds_toArray, List.set_cons_zero, List.set_cons_succ]
      refine wpAnyH_done (by kernel_rfl) ?_ _
      have HX := Lib.hid (HFIN.out W3 W4 HL4.out.2 HL4.out.1)
      have hcj : W4.cell? ⟨g, 34, none⟩ = some (.bool false) := hbX.cell ((hbW.cell (p := ⟨g, 34, none⟩) hg).trans c3) HGZ.out
      have hfj : W4.frozen? ⟨g, 34, none⟩ = false := (hbX.frozen (p := ⟨g, 34, none⟩) (Nat.lt_of_lt_of_le hg hbW.size) HGZ.out).trans ((World.frozen?_of_block (hbW.block g hg)).trans f3)
      have HK4 := Lib.hid (hbX.blk HK5.out HN5.out)
      have HDR := Lib.hid ((hbX.rd (HRd.out.kept fun i x hi h => (hbW.cell (p := i) hi.1).trans h) (fun b hb => hb.2)).mono (ok' := fun i => i < W4.heap.size) fun i hi => Nat.lt_of_lt_of_le hi.1 (Nat.le_trans hbW.size hbX.size))
      clear hbX HL4 HRC hbB3 hb3 HRP hbB2 hb2 k2 hbB1 c0 c1 c3 f3
      obtain ⟨Y1, Z1, k1, k2, k3, k4, k5, k6⟩ := HX.out
      rcases HCC.out with e0 | e0 | e0
      · have HE : Hid (writeJ s sd d = ({ s with recs := s.recs ++ [d], last := f }, sd1, 0)) := Lib.hid (by rw [HWJ.out, if_pos e0])
        subst e0
        have HAD := Lib.hid (add_any Y1 g gd s A n c d f W4 k1 HNN.out HDR.out)
        have HFI : Hid (∀ W5, JLeft Y1 g gd { s with recs := s.recs ++ [d], last := f } W4 W5 → BLeft Y Z g gd { s with recs := s.recs ++ [d], last := f } sd1 w W5) := Lib.hid fun W5 hj => bleft_add k2 k3 k4 k5 k6 hj
        clear k1 k2 k3 k4 k5 k6
        go_wp2_with (first
          | (refine wpList_load_arr rfl 37 _ rfl w1.heap.size rfl 37 _ _ HK4.out Tryd.underlying37 rfl (by rw [arr_size]; kernel_rfl) ?_)
          | (go_at_call 33; refine HAD.out.mono ?_; rintro e W5 ⟨rfl, hj5⟩))
        go_ret
        rw [HE.out]
        exact ⟨rfl, HFI.out _ hj5⟩
      · have HE : Hid (writeJ s sd d = (s, sd1, 3)) := Lib.hid (by rw [HWJ.out, e0, if_neg (by decide), if_neg (by decide)])
        subst e0
        clear k1 k2 k3 k4 k5 k6
        go_wp2
        go_ret
        rw [HE.out]
        exact ⟨rfl, HX.out⟩
      · have HE : Hid (writeJ s sd d = ({ s with down := true }, sd1, 90)) := Lib.hid (by rw [HWJ.out, e0, if_neg (by decide), if_pos rfl])
        subst e0
        have HFI := Lib.hid (bleft_add k2 k3 k4 k5 k6 (jrn_down k1 true))
        clear k1 k2 k3 k4 k5 k6
        go_wp2
        go_ret
        rw [HE.out]
        exact ⟨rfl, HFI.out⟩
  · have HW : Hid (writeJ s sd d = (s, sd, 90)) := Lib.hid (by unfold writeJ; rw [HDN.out, if_pos rfl])
    clear c2
    rw [HW.out]
    go_enter Tryd.func16, Tryd.ntmps16
    go_wp2
    go_ret
    exact ⟨rfl, HB0.out⟩
end Go.Proofs.YtkbdkeclbokhdaaDoor
