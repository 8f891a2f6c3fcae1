/-
  Layer 10: Open. In whatever memory in which the tables read as they are laid. No condition.
-/
import Derived.Test.YtkbdkeclbokhdaaDoorJrnFn
import Derived.Scope
namespace Go.Proofs.YtkbdkeclbokhdaaDoor
open Go Go.RowKit Go.Shelf

theorem codeJ_zero {a : Nat → UInt8} {b : List UInt8} (h : codeJ a b = 0) : 35 ≤ b.length ∧ sizeJ b ≤ b.length - 35 := by
  unfold codeJ at h
  by_cases h1 : b.length < 35
  · rw [if_pos h1] at h
    cases h
  · rw [if_neg h1] at h
    by_cases h2 : (b.take 19 == frontB a (sizeJ b)) = false
    · rw [if_pos h2] at h
      cases h
    · rw [if_neg h2] at h
      by_cases h3 : b.length - 35 < sizeJ b
      · rw [if_pos h3] at h
        cases h
      · omega
theorem codeJ_cases (a : Nat → UInt8) (b : List UInt8) : codeJ a b = 0 ∨ codeJ a b = 20 ∨ codeJ a b = 100 := by
  unfold codeJ
  split
  · exact .inr (.inl rfl)
  · split
    · exact .inr (.inr rfl)
    · split
      · exact .inr (.inl rfl)
      · split
        · exact .inr (.inr rfl)
        · exact .inl rfl
/-- The records in bytes, the sum of all, the bytes behind them, what is said of these. -/
def readJ (a : Nat → UInt8) (b : List UInt8) : List (List UInt8) × (Nat → UInt8) × List UInt8 × Nat :=
  if h : codeJ a b = 0 then (dataJ b :: (readJ (withD a (dataJ b)) (b.drop (35 + sizeJ b))).1, (readJ (withD a (dataJ b)) (b.drop (35 + sizeJ b))).2) else ([], a, b, codeJ a b)
termination_by b.length
decreasing_by
  all_goals
    have := codeJ_zero h
    rw [List.length_drop]
    omega
theorem readJ_yes {a : Nat → UInt8} {b : List UInt8} (h : codeJ a b = 0) : readJ a b = (dataJ b :: (readJ (withD a (dataJ b)) (b.drop (35 + sizeJ b))).1, (readJ (withD a (dataJ b)) (b.drop (35 + sizeJ b))).2) := by
  rw [readJ, dif_pos h]
theorem readJ_no {a : Nat → UInt8} {b : List UInt8} (h : ¬ codeJ a b = 0) : readJ a b = ([], a, b, codeJ a b) := by
  rw [readJ, dif_neg h]
def zeroD : Nat → UInt8 := fun _ => 0
/-- The journal on a slab, the slab behind it, the error's number. -/
def openJ (sd : SlabS) : Option JrnS × SlabS × Int :=
  if (readJ zeroD sd.bs).2.2.2 = 100 then (none, sd, 100)
  else if (readJ zeroD sd.bs).2.2.1.length = 0 then (some ⟨(readJ zeroD sd.bs).1, (readJ zeroD sd.bs).2.1, false⟩, sd, 0)
  else if (sd.cut ((sd.bs.length - (readJ zeroD sd.bs).2.2.1.length : Nat) : Int)).2 = 0 then (some ⟨(readJ zeroD sd.bs).1, (readJ zeroD sd.bs).2.1, false⟩, (sd.cut ((sd.bs.length - (readJ zeroD sd.bs).2.2.1.length : Nat) : Int)).1, 0)
  else (none, (sd.cut ((sd.bs.length - (readJ zeroD sd.bs).2.2.1.length : Nat) : Int)).1, (sd.cut ((sd.bs.length - (readJ zeroD sd.bs).2.2.1.length : Nat) : Int)).2)
theorem jrn_built (gd : Nat) : (Tryd.prog.built 78 [(0, .pointer (some ⟨gd, 0, none⟩))]).getD #[] = arr 35 (jF gd (.slice none 0 0) (fun _ => 0) false) := by kernel_rfl
/-- What Open leaves. -/
def OpenO (Z : Nat → Prop) (gd : Nat) (r : Option JrnS × SlabS × Int) (w : World) (e : Ending) (w' : World) : Prop :=
  ∃ Z' p, e = .returned (.tuple #[.pointer p, .int .i64 r.2.2]) ∧ SlabAt w' Z' gd r.2.1 ∧ Turn Z w w' ∧ (∀ i, Z' i → Z i ∨ w.heap.size ≤ i) ∧
    (match r.1 with
    | none => p = none
    | some s => ∃ g Y, p = some ⟨g, 0, none⟩ ∧ JrnAt w' Y g gd s ∧ (∀ i, Y i → w.heap.size ≤ i) ∧ ∀ i, Y i → ¬ Z' i)
theorem jrn_new (gd : Nat) (w W : World) (g : Nat) (_hg : w.heap.size ≤ g) (hb : Blk W g 78 (arr 35 (jF gd (.slice none 0 0) (fun _ => 0) false))) : JrnAt W (fun i => i = g) g gd ⟨[], zeroD, false⟩ :=
  ⟨.slice none 0 0, [], hb, World.ownsRow_nil _ _ _ _, fun k hk => absurd hk (Nat.not_lt_zero k), rfl, (fun i hi => by cases hi), fun i hi => by rw [hi]; exact hb.lt⟩
def slLen : Value → Nat
  | .slice _ n _ => n
  | _ => 0
/-- Between two records. -/
def OpenR (w : World) (g gd : Nat) (sd : SlabS) (v : Value) (wr : World) : Prop :=
  ∃ A n c bs Y recs last, v = .slice A n c ∧ RdB wr (fun i => w.heap.size ≤ i ∧ i < wr.heap.size ∧ ¬ Y i) (.slice A n c) bs ∧ bs.length = n ∧ JrnAt wr Y g gd ⟨recs, last, false⟩ ∧ (∀ i, Y i → w.heap.size ≤ i) ∧ Below w.heap.size w wr ∧
    readJ zeroD sd.bs = (recs ++ (readJ last bs).1, (readJ last bs).2) ∧ 35 * recs.length + n ≤ sd.bs.length
set_option maxRecDepth 100000 in
set_option maxHeartbeats 4000000 in
theorem open_any (Z : Nat → Prop) (gd : Nat) (sd : SlabS) (w : World) (hT : Tables w) (hd : SlabAt w Z gd sd) :
    Calls Tryd.prog 13 #[.pointer (some ⟨gd, 0, none⟩)] w fun e w' => OpenO Z gd (openJ sd) w e w' := by
  have HT := Lib.hid hT
  have HD := Lib.hid hd
  have hbi := jrn_built gd
  have hlz : Hid (∀ i, Z i → i < w.heap.size) := Lib.hid (by obtain ⟨_, _, _, _, _, q, _⟩ := hd; exact q)
  have hln : Hid (sd.bs.length ≤ 4194304) := Lib.hid (by obtain ⟨_, _, _, _, _, _, q⟩ := hd; have := q.fits; have := q.room; omega)
  clear hT hd
  go_enter Tryd.func13, Tryd.ntmps13
  go_upto_region 1 with fail
  refine wp_scope_straight ?_
  go_upto_region 2 with fail
  generalize hW : World.alloc w _ = W
  have hbW : Below w.heap.size w W := by rw [← hW]; exact (Below.refl _ _).alloc (Nat.le_refl _) _
  have hjW : JrnAt W (fun i => i = w.heap.size) w.heap.size gd ⟨[], zeroD, false⟩ := jrn_new gd w W w.heap.size (Nat.le_refl _) (by rw [← hW]; exact Blk.newAt _ _ rfl (by kernel_rfl))
  have hgW : w.heap.size < W.heap.size := hjW.lt
  obtain ⟨nb, hnb⟩ : ∃ nb, sd.bs.length = nb := ⟨_, rfl⟩
  have HBY := Lib.hid (slabBytes_any Z gd sd W (HD.out.below hbW))
  rw [hnb] at HBY hln
  have HNB := Lib.hid hnb
  have HJW := Lib.hid hjW
  have HBW := Lib.hid hbW
  clear hW hbW hjW hnb hbi
  generalize Value.agg _ = va
  go_wp2_with (go_at_call 23; refine HBY.out.mono ?_; rintro e W1 ⟨A1, c1, rfl, ho1, hb1⟩)
  refine wp_label ?_
  go_wp2_with fail
  have HSTART : Hid (OpenR w w.heap.size gd sd (.slice A1 nb c1) W1) := Lib.hid ⟨A1, nb, c1, sd.bs, fun i => i = w.heap.size, [], zeroD, rfl, (rdB_own ho1 HNB.out (by have := hln.out; omega)).mono fun i hi => ⟨Nat.le_trans HBW.out.size hi.1, hi.2, by have := hi.1; omega⟩, HNB.out, HJW.out.below hb1, fun i hi => by rw [hi]; exact Nat.le_refl _, HBW.out.trans (hb1.mono HBW.out.size), by simp, by simp [HNB.out]⟩
  clear HBY HJW ho1 hb1
  go_loopw [5] (fun v wr => OpenR w w.heap.size gd sd v wr) (fun v _ => slLen v)
  case atStart => exact HSTART.out
  case round =>
    clear HSTART
    obtain ⟨A, n, c, bs, Y, recs, last, rfl, hr, hbn, hj, hY, hbw, hrd, hle⟩ := hrel
    have HJ := Lib.hid hj
    have HRB := Lib.hid hr
    have HBN := Lib.hid hbn
    have HY := Lib.hid hY
    have HBR := Lib.hid hbw
    have HRJ := Lib.hid hrd
    have HLE := Lib.hid (And.intro hle hln.out)
    obtain ⟨Aj, cj, hcj, c0, c1', c2, c3, f3, hg, hk⟩ := jrn_open hj
    have hnn : n ≤ 4194304 := by rw [HNB.out] at hle; have := hln.out; omega
    have hnc : n ≤ c := by
      obtain ⟨_, _, hv, q, _⟩ := hr
      injection hv with e1 e2 e3
      omega
    have HFST := Lib.hid (first_any last A n c bs wr (HT.out.below hbw) (hr.mono fun i hi => hi.2.1))
    obtain ⟨cd, hcd⟩ : ∃ cd, codeJ last bs = cd := ⟨_, rfl⟩
    have HCC : Hid (cd = 0 ∨ cd = 20 ∨ cd = 100) := Lib.hid (by rw [← hcd]; exact codeJ_cases _ _)
    have HCD := Lib.hid hcd
    rw [hcd] at HFST
    clear hj hr hbn hY hbw hrd hle hcd hk c0 c1' c3 f3 hcj
    go_upto_region 4 with (first
      | (refine wpList_load_mid rfl 37 _ rfl w.heap.size 2 rfl _ _ c2 Tryd.underlying37 rfl (by rw [Array.length_toList, arr_size]; kernel_rfl) ?_)
      | (go_at_call 32; refine HFST.out.mono ?_; rintro e W2 ⟨v, f, rfl, hF, hb2⟩)
      | (refine wpList_store_row rfl 37 _ _ rfl W2.heap.size (arr 32 fun i => bv (f i)) rfl rfl 37 _ (heap_alloc_new W2 _) (by rw [arr_size]; kernel_rfl) (by rw [arr_size]; rfl) (arr_all_bv _ _) ?_; rw [World.setRow_alloc_new]))
    generalize hW3 : World.alloc W2 _ = W3
    have hb3 : Below W2.heap.size W2 W3 := by rw [← hW3]; exact (Below.refl _ _).alloc (Nat.le_refl _) _
    have k7 : Blk W3 W2.heap.size 37 (arr 32 fun i => bv (f i)) := by rw [← hW3]; exact Blk.newAt _ _ rfl rfl
    have hbr3 : Below wr.heap.size wr W3 := hb2.trans (hb3.mono hb2.size)
    have HJ3 := Lib.hid (HJ.out.below hbr3)
    have HB3 := Lib.hid hbr3
    have HB03 := Lib.hid (HBR.out.trans (hbr3.mono HBR.out.size))
    have HK7 := Lib.hid k7
    have HZY : Hid (∀ i, Y i → ¬ Z i) := Lib.hid fun i hy hz => by have := HY.out i hy; have := hlz.out i hz; omega
    clear hW3 k7 hbr3 c2 HFST
    rcases HCC.out with e0 | e0 | e0
    · subst e0
      obtain ⟨⟨Av, cv, rfl⟩, hrv, hf⟩ := hF HCD.out
      have hz := codeJ_zero HCD.out
      have HRY := Lib.hid (readJ_yes HCD.out)
      obtain ⟨N, hN⟩ : ∃ N, sizeJ bs = N := ⟨_, rfl⟩
      rw [hN, HBN.out] at hz
      rw [hN] at hrv HRY ⊢
      have HN := Lib.hid hN
      have HF := Lib.hid hf
      have HADD := Lib.hid (add_any Y w.heap.size gd ⟨recs, last, false⟩ Av N cv (dataJ bs) f W3 HJ3.out (by show recs.length < 100000000; have := HLE.out.1; have := HLE.out.2; have := HNB.out; omega) ((hrv.kept fun i x hi h => (hb3.cell (p := i) (Nat.lt_of_lt_of_le hi hb2.size)).trans h).mono fun i hi => Nat.lt_of_lt_of_le hi HB3.out.size))
      have hsl : ∀ w', (Instr.sliceAt 42 (.slice A n c) (some (.int .i64 (35 + (N : Int)))) none none).run Tryd.prog w' = .ok (.slice (cutA A c (35 + N)) (n - (35 + N)) (c - (35 + N))) w' := fun w' => by
        have := run_slice_from (P := Tryd.prog) 42 5 Tryd.underlying42 (by kernel_rfl) A n c (35 + N) (by omega) w'
        rw [Int.natCast_add] at this
        exact this
      have hNi : (N : Int) ≤ 4194304 := by omega
      have HNZ := Lib.hid (And.intro hz hnn)
      clear hrv hN hf hb2 hb3 hF hz hnn hnc
      go_wp2_with (first
        | (refine wpList_load_arr rfl 37 _ rfl W2.heap.size rfl 37 _ _ HK7.out Tryd.underlying37 rfl (by rw [arr_size]; kernel_rfl) ?_)
        | (go_at_call 33; refine HADD.out.mono ?_; rintro e W4 ⟨rfl, hj4⟩))
      go_roundw
      · obtain ⟨Y', q1, q2, q3⟩ := hj4
        have hz := HNZ.out.1
        have hb4 : Below w.heap.size w W4 := ((Turn.of_new HB03.out Y).trans q2 (fun i _ h => h)).below (Nat.le_refl _) (fun i hi hy => by have := HY.out i hy; omega)
        refine ⟨_, _, _, bs.drop (35 + N), Y', recs ++ [dataJ bs], f, rfl, ?_, by rw [List.length_drop, HBN.out], q1, fun i hi => ?_, hb4, ?_, ?_⟩
        · refine ((q2.rd (HRB.out.kept fun i x hi h => (HB3.out.cell (p := i) hi.2.1).trans h) (fun i hi => hi.2.2)).cut (k := 35 + N) (by omega)).mono fun i hi => ⟨hi.1, Nat.lt_of_lt_of_le hi.2.1 (Nat.le_trans HB3.out.size q2.size), fun hy => ?_⟩
          rcases q3 i hy with h | h
          · exact hi.2.2 h
          · have := HB3.out.size
            omega
        · rcases q3 i hi with h | h
          · exact HY.out i h
          · exact Nat.le_trans HB03.out.size h
        · rw [HRJ.out, HRY.out, HF.out, List.append_assoc]
          rfl
        · have := HLE.out.1
          rw [List.length_append, List.length_singleton]
          omega
      · have hz := HNZ.out.1
        show n - (35 + N) < n
        omega
    · subst e0
      have HRN : Hid (readJ zeroD sd.bs = (recs, last, bs, 20)) := Lib.hid (by rw [HRJ.out, readJ_no (by rw [HCD.out]; decide), HCD.out, List.append_nil])
      clear hF hb2 hb3
      by_cases hn0 : n = 0
      · have HO : Hid (openJ sd = (some ⟨recs, last, false⟩, sd, 0)) := Lib.hid (by unfold openJ; rw [HRN.out]; dsimp only; rw [if_neg (by decide), if_pos (by rw [HBN.out]; exact hn0)])
        subst hn0
        go_wp2_with (go_at_call 34; refine (cutOff_zero gd W3).mono ?_; rintro e W4 ⟨rfl, rfl⟩)
        go_ret2
        rw [HO.out]
        exact ⟨Z, _, rfl, HD.out.below HB03.out, Turn.of_new HB03.out Z, fun i hi => .inl hi, w.heap.size, Y, rfl, HJ3.out, HY.out, HZY.out⟩
      · have HCUT := Lib.hid (cutOff_any Z gd sd n (by omega) (by have := HLE.out.1; omega) W3 (HD.out.below HB03.out))
        obtain ⟨r, hr⟩ : ∃ r, sd.cut ((sd.bs.length - n : Nat) : Int) = r := ⟨_, rfl⟩
        have HO : Hid (openJ sd = if r.2 = 0 then (some ⟨recs, last, false⟩, r.1, 0) else (none, r.1, r.2)) := Lib.hid (by unfold openJ; rw [HRN.out]; dsimp only; rw [if_neg (by decide), HBN.out, if_neg hn0, hr])
        rw [hr] at HCUT
        obtain ⟨sd', ce⟩ := r
        dsimp only at HO HCUT
        clear hr hn0
        by_cases hce : ce = 0
        · have HO0 : Hid (openJ sd = (some ⟨recs, last, false⟩, sd', 0)) := Lib.hid (by rw [HO.out, if_pos hce])
          clear HO
          subst hce
          go_wp2_with (go_at_call 34; refine HCUT.out.mono ?_; rintro e W4 ⟨rfl, Z', h1, h2, h3⟩)
          go_ret2
          rw [HO0.out]
          exact ⟨Z', _, rfl, h1, (Turn.of_new HB03.out Z).trans h2 (fun i _ h => h), fun i hi => (h3 i hi).imp id (fun h => Nat.le_trans HB03.out.size h), w.heap.size, Y, rfl, HJ3.out.turn h2 HZY.out, HY.out, fun i hy hz => by
            rcases h3 i hz with h | h
            · exact HZY.out i hy h
            · have := HJ.out.blocks i hy
              have := HB3.out.size
              omega⟩
        · have hce' : (ce == 0) = false := by rw [beq_eq_false_iff_ne]; exact hce
          have hcb : (!(ce == 0)) = true := by rw [hce']; rfl
          go_wp2_with (go_at_call 34; refine HCUT.out.mono ?_; rintro e W4 ⟨rfl, Z', h1, h2, h3⟩)
          go_ret2
          rw [HO.out, if_neg hce]
          exact ⟨Z', _, rfl, h1, (Turn.of_new HB03.out Z).trans h2 (fun i _ h => h), fun i hi => (h3 i hi).imp id (fun h => Nat.le_trans HB03.out.size h), rfl⟩
    · subst e0
      have HRN : Hid (readJ zeroD sd.bs = (recs, last, bs, 100)) := Lib.hid (by rw [HRJ.out, readJ_no (by rw [HCD.out]; decide), HCD.out, List.append_nil])
      have HO : Hid (openJ sd = (none, sd, 100)) := Lib.hid (by unfold openJ; rw [HRN.out]; dsimp only; rw [if_pos rfl])
      clear hF hb2 hb3
      go_wp2
      go_ret2
      rw [HO.out]
      exact ⟨Z, _, rfl, HD.out.below HB03.out, Turn.of_new HB03.out Z, fun i hi => .inl hi, rfl⟩
end Go.Proofs.YtkbdkeclbokhdaaDoor
