/-
  SumPurposes, the walk: for every purpose, parts and two sums.
-/
import Derived.Test.YtghjdelijmlemaaDoorLawStands
import Derived.Test.YtghjdelijmlemaaDoorRefLeaf
import Derived.Deep.DeepMust
namespace Go.Proofs.YtghjdelijmlemaaDoor
open Go Go.RowKit Go.Shelf

theorem info_str : (Tryd.prog.info? 9).map (fun i => (i.zero, i.size, i.bytes)) = some (some (.string ⟨#[]⟩), 1, 16) := by kernel_rfl
theorem one_str (s : ByteArray) : ∀ u ∈ [Value.string s], u.oneCell' = true := fun u hu => by
  simp at hu
  subst hu
  rfl
def strs (qs : List (List UInt8)) : List Value := qs.map fun q => .string ⟨q.toArray⟩
theorem rdS_of_own {W : World} {base n : Nat} {A : Option Addr} {c : Nat} {qs : List (List UInt8)} (h : W.ownsRow base 9 1 (.slice A n c) n (strs qs)) (hn : qs.length = n) : RdS W A qs := fun k hk => by
  rcases h.2 with ⟨_, h0⟩ | ⟨g, cap, cur, hv, hb, hg, hcap, _⟩
  · omega
  · injection hv with e1 e2 e3
    subst e1
    refine ⟨_, rfl, (h.lt g rfl).2, h.cells (g := g) rfl k _ ?_⟩
    rw [strs, List.getElem?_map, List.getElem?_eq_getElem hk, List.getD_eq_getElem?_getD, List.getElem?_eq_getElem hk]
    rfl
theorem forBytes_bound (p : List UInt8) (qs : List (List UInt8)) (a n m : Nat) (hp : p.length ≤ a) (hn : qs.length ≤ n) (h : ∀ q ∈ qs, q.length ≤ m) : (forBytes p qs).length ≤ a + 1 + n * (4 + m) := by
  unfold forBytes
  rw [List.length_append, List.length_cons]
  have : (qs.flatMap fun q => len4 q.length ++ q).length ≤ n * (4 + m) := by
    rw [List.flatMap_def]
    refine flatten_len_le _ _ _ (by rw [List.length_map]; exact hn) fun q hq => ?_
    simp only [List.mem_map] at hq
    obtain ⟨r, hr, rfl⟩ := hq
    rw [List.length_append]
    have := h r hr
    have h4 : (len4 r.length).length = 4 := rfl
    omega
  omega
theorem cutTo_each (most long : Nat) (ps : List (List UInt8)) (k : Nat) : ∀ q ∈ cutTo most long ps k, q.length ≤ long := fun q hq => by
  unfold cutTo at hq
  simp only [List.mem_map] at hq
  obtain ⟨r, _, rfl⟩ := hq
  rw [List.length_take]
  omega
/-- Rows of unlike elements are unlike rows. -/
theorem own_ne {W : World} {b1 b2 s1 s2 n1 n2 : Nat} {e1 e2 : TypeId} {v1 v2 : Value} {xs1 xs2 : List Value} (h1 : W.ownsRow b1 e1 s1 v1 n1 xs1) (h2 : W.ownsRow b2 e2 s2 v2 n2 xs2) (hne : e1 ≠ e2) : v1.ownBlock = none ∨ v1.ownBlock ≠ v2.ownBlock := by
  rcases h1.2 with ⟨rfl, _⟩ | ⟨g, cap, cur, rfl, _, hg, _⟩
  · exact .inl rfl
  · rcases h2.2 with ⟨rfl, _⟩ | ⟨g', cap', cur', rfl, _, hg', _⟩
    · exact .inr (by simp [Value.ownBlock])
    · refine .inr fun e => ?_
      simp only [Value.ownBlock, Option.some.injEq] at e
      subst e
      rw [hg] at hg'
      injection hg' with h
      injection h with _ h
      exact hne h
/-- Two sums in one variable. -/
theorem two_ranges {W : World} {g t : Nat} {f : Nat → UInt8} (h : Blk W g t (arr 64 fun i => bv (f i))) :
    W.rangeAt g 0 ((id32 f).map Extern.Stop.cell) ∧ W.rangeAt g 32 ((id32 fun i => f (32 + i)).map Extern.Stop.cell) := by
  refine ⟨fun j v hv => ?_, fun j v hv => ?_⟩
  all_goals
    have hj : j < 32 := by
      rcases Nat.lt_or_ge j 32 with h' | h'
      · exact h'
      · rw [List.getElem?_eq_none (by simp [id32]; exact h')] at hv; cases hv
    rw [h.cell, arr_get, if_pos (by omega), ← hv]
    simp [id32, hj]
    rfl

set_option maxRecDepth 100000 in
set_option maxHeartbeats 2000000 in
theorem purposes_any (pl : List UInt8) (hpl : pl.length ≤ 9223372036854775807) (A : Option Addr) (c : Nat) (ps : List (List UInt8)) (n : Nat) (hn : ps.length = n) (hnm : n ≤ 140737488351232) (t : Nat → UInt8) (w : World) (hT : Tables w) (hr : RdP w (fun b => b < w.heap.size) A ps) :
    Calls Tryd.prog 5 #[.string ⟨pl.toArray⟩, .slice A n c, .agg (arr 64 fun i => bv (t i))] w fun e w' => e = .returned (.bool true) ∧ Below w.heap.size w w' := by
  have HT := Lib.hid hT
  have HR := Lib.hid hr
  have HN := Lib.hid hn
  clear hT hr hn
  obtain ⟨i0, hi, hz0, hz1, hz2⟩ := info_parts info_bytes
  have HI := Lib.hid (And.intro hi (And.intro hz0 (And.intro hz1 hz2)))
  clear hi hz0 hz1 hz2
  obtain ⟨j0, hi, hz0, hz1, hz2⟩ := info_parts info_str
  have HJ := Lib.hid (And.intro hi (And.intro hz0 (And.intro hz1 hz2)))
  clear hi hz0 hz1 hz2
  obtain ⟨a2, ha2⟩ : ∃ a2, (arr 64 fun i => bv (t i)) = a2 := ⟨_, rfl⟩
  rw [ha2]
  have HA2 := Lib.hid ha2
  clear ha2
  obtain ⟨l, hl⟩ : ∃ l, pl.length = l := ⟨_, rfl⟩
  have hsz : (⟨pl.toArray⟩ : ByteArray).size = l := by rw [ba_len, hl]
  obtain ⟨m, hm⟩ : ∃ m, min l 100 = m := ⟨_, rfl⟩
  have hmi : min (l : Int) 100 = (m : Int) := by omega
  have hml : m ≤ l := by omega
  have hm1 : m ≤ 100 := by omega
  have hml' : (m : Int) ≤ (l : Int) := by omega
  have hext : ByteArray.extract { data := pl.toArray } 0 m = { data := (pl.take m).toArray } := by
    apply ByteArray.ext
    simp
  obtain ⟨pu, hpu⟩ : ∃ pu, pl.take m = pu := ⟨_, rfl⟩
  rw [hpu] at hext
  have hpn : pu.length = m := by rw [← hpu, List.length_take]; omega
  have HPN := Lib.hid hpn
  rw [hl] at hpl
  clear hl hm hpu hpn
  go_enter Tryd.func5, Tryd.ntmps5
  go_wp2_with (go_at_call 9; refine (callsIn_wide.1 (known_any _ (HT.out.below ((Below.refl _ w).alloc (Nat.le_refl _) _)))).mono ?_; rintro e w1 ⟨rfl, hb1⟩)
  have hx1 : Blk w1 w.heap.size 36 (arr 64 fun i => bv (t i)) := by rw [HA2.out]; exact (Blk.new w _ _).below hb1 (by simp)
  have hw1 : Below w.heap.size w w1 := ((Below.refl _ w).alloc (Nat.le_refl _) _).trans (hb1.mono (by simp))
  clear hb1 hext hsz hmi hml hml'
  go_loopw [7, 8, 21] (fun v u i wr => ∃ k : Nat, k ≤ n ∧ i = .int .i64 (k : Int) ∧ (∃ xs, wr.ownsRow (w.heap.size + 1) 24 1 v (cutTo 6 100 ps k).length xs ∧ Cut w.heap.size wr xs (cutTo 6 100 ps k)) ∧ wr.ownsRow (w.heap.size + 1) 9 1 u (cutTo 6 100 ps k).length (strs (cutTo 6 100 ps k)) ∧ Blk wr w.heap.size 36 (arr 64 fun i => bv (t i)) ∧ Below w.heap.size w wr) (fun _ _ i _ => n - (intOf i).toNat)
  case atStart => exact ⟨0, by omega, rfl, ⟨[], by rw [cutTo_zero]; exact World.ownsRow_nil _ _ _ _, by rw [cutTo_zero]; exact ⟨rfl, fun i hi => by simp at hi⟩⟩, by rw [cutTo_zero]; exact World.ownsRow_nil _ _ _ _, hx1, hw1⟩
  case round =>
    clear hx1 hw1
    obtain ⟨k, hk, rfl, ⟨xs, hown, hC⟩, hlst, hX, hb⟩ := hrel
    by_cases hlt : k < n
    · obtain ⟨ad, v, rfl, hok, hcell, hread⟩ := (HR.out.kept (W' := wr) fun a x ha h => (hb.cell (p := a) ha).trans h) k (by rw [HN.out]; exact hlt)
      have hkn : (k : Int) < (n : Int) := by omega
      by_cases h6 : k < 6
      · have hst := Lib.hid (cutTo_snoc 6 100 ps k (by rw [HN.out]; exact hlt) h6)
        have hln := cutTo_length 6 100 ps k
        obtain ⟨qs, hqs⟩ : ∃ qs, cutTo 6 100 ps k = qs := ⟨_, rfl⟩
        rw [hqs] at hst hown hC hln hlst
        clear hqs
        obtain ⟨q, hq⟩ : ∃ q, ps.getD k [] = q := ⟨_, rfl⟩
        rw [hq] at hst hread
        obtain ⟨A0, c0, rfl, hc0, hn0, hcs0⟩ := hread
        have hread : RdB wr (fun b => b < w.heap.size) (.slice A0 q.length c0) q := ⟨A0, c0, rfl, hc0, hn0, hcs0⟩
        obtain ⟨l, hl⟩ : ∃ l, q.length = l := ⟨_, rfl⟩
        rw [hl] at hc0 hn0 hcell hread
        obtain ⟨m, hm⟩ : ∃ m, min l 100 = m := ⟨_, rfl⟩
        have hmi : min (l : Int) 100 = (m : Int) := by omega
        have hmc : m ≤ c0 := by omega
        have hr2 := hread.firsts (m := m) (by omega)
        have hqm : q.take 100 = q.take m := by
          by_cases h : l ≤ 100
          · rw [List.take_of_length_le (by omega), List.take_of_length_le (by omega)]
          · rw [show m = 100 from by omega]
        rw [hqm] at hst
        obtain ⟨y, hy⟩ : ∃ y, q.take m = y := ⟨_, rfl⟩
        rw [hy] at hst hr2
        have hto := fun w' => run_slice_to (P := Tryd.prog) 24 5 Tryd.underlying24 (by kernel_rfl) A0 l c0 m hmc w'
        have HO := Lib.hid hown
        have HC := Lib.hid hC
        have HLS := Lib.hid hlst
        have HX := Lib.hid hX
        have HBB := Lib.hid hb
        have HRR := Lib.hid hr2
        have h6' : (k : Int) < 6 := by omega
        obtain ⟨z, hz⟩ : ∃ z, qs.length = z := ⟨_, rfl⟩
        rw [hz] at hln HO HLS
        have HZ := Lib.hid hz
        clear hcs0 hown hC hlst hX hb hr2 hread hq hl hm hqm hy hok hz
        go_wp2_with (first
          | (at_builtin; refine wpList_append_lies _ rfl (.tmp 33) (.tmp 35) 22 rfl (w.heap.size + 1) 24 i0 (.slice none 0 0) 1 24 Tryd.underlying22 HI.out.1 HI.out.2.1 HI.out.2.2.1 HI.out.2.2.2 rfl (by omega) u7 z xs rfl (HO.out.alloc _) ⟨wr.heap.size, 0, none⟩ 1 1 [.slice A0 m c0] rfl rfl (news_blk (Blk.new _ _ _)) (one_slice _ _ _) (by omega) (by unfold maxLen; omega) (by omega) (by have := HX.out.lt; simp; omega) (wr.heap.size + 1) (by simp) ?_; intro g2 cap2 w4 hown4 hgr4 hat4 hlt4; have hbw : Below w.heap.size wr w4 := ((Below.refl _ _).alloc HBB.out.size _).grown hgr4 (by have := HBB.out.size; simp; omega) (fun x hx => by have := (HO.out.lt x hx).1; omega); have hl4 := (HLS.out.alloc (.cells #[.slice A0 m c0] 24)).kept hgr4 (own_ne HLS.out HO.out (by decide)); have hX4 := (HX.out.alloc (.cells #[.slice A0 m c0] 24)).grown hgr4 (fun e => by have := (HO.out.lt _ e.symm).1; omega); have hcv := str_rd (HRR.out.kept fun a x ha h => (hbw.cell (p := a) ha).trans h); have hz4 := hbw.size)
          | (at_builtin; go_must (refine wpList_append_lies _ rfl (.tmp 37) (.tmp 40) 37 rfl (w.heap.size + 1) 9 j0 (.string ⟨#[]⟩) 1 16 Tryd.underlying37 HJ.out.1 HJ.out.2.1 HJ.out.2.2.1 HJ.out.2.2.2 rfl (by omega) u8 z (strs qs) rfl (hl4.alloc _) ⟨w4.heap.size, 0, none⟩ 1 1 [.string ⟨y.toArray⟩] rfl rfl (news_blk (Blk.new _ _ _)) (one_str _) (by omega) (by unfold maxLen; omega) (by omega) (by have := hX4.lt; simp; omega) (w4.heap.size + 1) (by simp) ?_; intro g3 cap3 w5 hown5 hgr5 hat5 hlt5; have hbw5 : Below w.heap.size wr w5 := (hbw.alloc (by have := hX4.lt; omega) _).grown hgr5 (by have := hX4.lt; simp; omega) (fun x hx => by have := (hl4.lt x hx).1; omega); have ho5 := (hown4.alloc (.cells #[.string ⟨y.toArray⟩] 9)).kept hgr5 (own_ne hown4 hl4 (by decide)); have hX5 := (hX4.alloc (.cells #[.string ⟨y.toArray⟩] 9)).grown hgr5 (fun e => by have := (hl4.lt _ e.symm).1; omega))))
        have hC5 : Hid (Cut w.heap.size w5 (xs ++ [.slice A0 m c0]) (qs ++ [y])) := Lib.hid ((HC.out.below hbw5).snoc (HRR.out.kept fun a x ha h => (hbw5.cell (p := a) ha).trans h))
        have hl2 : Hid ((qs ++ [y]).length = z + 1) := Lib.hid (by rw [List.length_append, HZ.out]; rfl)
        have hs2 : Hid (strs (qs ++ [y]) = strs qs ++ [.string ⟨y.toArray⟩]) := Lib.hid (by simp [strs])
        have HO5 := Lib.hid ho5
        have HL5 := Lib.hid hown5
        have HX5 := Lib.hid hX5
        have hb5 : Hid (Below w.heap.size w w5) := Lib.hid (HBB.out.trans hbw5)
        clear hown4 hgr4 hat4 hlt4 hcv hbw hl4 hX4 hown5 hgr5 hat5 hlt5 hbw5 ho5 hX5 hz4
        go_roundw
        case rel => exact ⟨k + 1, by omega, by go_num, ⟨_, by rw [hst.out, hl2.out]; exact HO5.out, by rw [hst.out]; exact hC5.out⟩, by rw [hst.out, hl2.out, hs2.out]; exact HL5.out, HX5.out, hb5.out⟩
        case measure => simp [intOf]; omega
      · have hst := Lib.hid (cutTo_more 6 100 ps k (by omega))
        have h6' : decide ((k : Int) < 6) = false := by simp; omega
        have HO := Lib.hid hown
        have HC := Lib.hid hC
        have HLS := Lib.hid hlst
        have HX := Lib.hid hX
        have HBB := Lib.hid hb
        obtain ⟨A0, c0, rfl, hc0, hn0, hcs0⟩ := hread
        clear hown hC hlst hX hb hcs0 hok
        go_wp2
        go_roundw
        case rel => exact ⟨k + 1, by omega, by go_num, ⟨xs, by rw [hst.out]; exact HO.out, by rw [hst.out]; exact HC.out⟩, by rw [hst.out]; exact HLS.out, HX.out, HBB.out⟩
        case measure => simp [intOf]; omega
    · obtain rfl : k = n := by omega
      obtain ⟨A1, c1, rfl⟩ : ∃ A1 c1, u7 = .slice A1 (cutTo 6 100 ps k).length c1 := by
        rcases hown.2 with ⟨h1, h2⟩ | ⟨g, cap, _, h1, _⟩
        · exact ⟨none, 0, by rw [h1, h2]⟩
        · exact ⟨_, cap, h1⟩
      obtain ⟨A2, c2, rfl⟩ : ∃ A2 c2, u8 = .slice A2 (cutTo 6 100 ps k).length c2 := by
        rcases hlst.2 with ⟨h1, h2⟩ | ⟨g, cap, _, h1, _⟩
        · exact ⟨none, 0, by rw [h1, h2]⟩
        · exact ⟨_, cap, h1⟩
      have hrp := rdP_of_cut hown hC hb.size
      have hrs := rdS_of_own hlst rfl
      have hln := cutTo_length 6 100 ps k
      have hpn := HPN.out
      have hfb := forBytes_bound pu (cutTo 6 100 ps k) 100 6 100 (by omega) hln (cutTo_each 6 100 ps k)
      obtain ⟨qs, hqs⟩ : ∃ qs, cutTo 6 100 ps k = qs := ⟨_, rfl⟩
      rw [hqs] at hrp hrs hln hfb ⊢
      obtain ⟨v1, wE, hcvE, hownE, hbE⟩ := run_bytes_of pu (by omega) wr
      have hrE := (hownE.rd (by omega)).mono fun b hb => hb.2
      obtain ⟨g1, cap1, rfl, _, _, _, _⟩ := hownE
      have hTE := HT.out.below (hb.trans (hbE.mono hb.size))
      have hXE := hX.below hbE hX.lt
      have hwE : Below w.heap.size w wE := hb.trans (hbE.mono hb.size)
      have hrp2 : RdP wE (fun b => b < wE.heap.size) A1 qs := fun i hi => by
        obtain ⟨ad, v, e1, e2, e3, e4⟩ := (hrp.kept (W' := wE) fun a x ha h => (hbE.cell (p := a) ha).trans h) i hi
        exact ⟨ad, v, e1, Nat.lt_of_lt_of_le e2 hbE.size, e3, e4.mono fun b hb => Nat.lt_of_lt_of_le hb hbE.size⟩
      have hrs2 : RdS wE A2 qs := fun i hi => by
        obtain ⟨ad, e1, e2, e3⟩ := hrs i hi
        exact ⟨ad, e1, Nat.lt_of_lt_of_le e2 hbE.size, (hbE.cell (p := ad.add i) (by rw [block_add]; exact e2)).trans e3⟩
      obtain ⟨csF, eF, _, _, _, eF2⟩ := sum_cells (forBytes pu qs)
      obtain ⟨csL, eL, _, _, _, eL2⟩ := sum_cells (0 :: pu)
      obtain ⟨l, hl⟩ : ∃ l : Nat → UInt8, t = l := ⟨_, rfl⟩
      obtain ⟨r, hr⟩ : ∃ r : Nat → UInt8, (fun i => t (32 + i)) = r := ⟨_, rfl⟩
      obtain ⟨hr1, hr2⟩ := two_ranges hXE
      rw [hl] at hr1
      rw [hr] at hr2
      obtain ⟨csN, eN, _, _, _, eN2⟩ := sum_cells (1 :: (id32 l ++ id32 r))
      obtain ⟨cl, ecl⟩ : ∃ cl, (id32 l).map Extern.Stop.cell = cl := ⟨_, rfl⟩
      obtain ⟨cr, ecr⟩ : ∃ cr, (id32 r).map Extern.Stop.cell = cr := ⟨_, rfl⟩
      have el : (arr 32 fun i => bv (l i)) = cl.toArray := by rw [arr_id32, ecl]
      have er : (arr 32 fun i => bv (r i)) = cr.toArray := by rw [arr_id32, ecr]
      rw [ecl] at hr1
      rw [ecr] at hr2
      have hll : cl.length = 32 := by rw [← ecl]; simp [id32]
      have hrl : cr.length = 32 := by rw [← ecr]; simp [id32]
      have hinfo : (Tryd.prog.info? 26).map (·.size) = some 32 := by kernel_rfl
      have HLI : Hid ((Tryd.prog.info? 26).map (·.size) = some cl.length) := Lib.hid (by rw [hll]; exact hinfo)
      have HRI : Hid ((Tryd.prog.info? 26).map (·.size) = some cr.length) := Lib.hid (by rw [hrl]; exact hinfo)
      have hu := Tryd.underlying26
      have FO : Hid (∀ W', Below wE.heap.size wE W' → Calls Tryd.prog 14 #[.string ⟨pu.toArray⟩, .slice A1 qs.length c1] W' fun e w' => e = .returned (.agg csF.toArray) ∧ Below W'.heap.size W' w') := Lib.hid fun W' hb => by
        rw [← eF]
        exact for_any pu (by omega) A1 c1 qs (by omega) (by omega) W' (hTE.below hb) (fun i hi => by
          obtain ⟨ad, v, e1, e2, e3, e4⟩ := (hrp2.kept (W' := W') fun a x ha h => (hb.cell (p := a) ha).trans h) i hi
          exact ⟨ad, v, e1, Nat.lt_of_lt_of_le e2 hb.size, e3, e4.mono fun b hb' => Nat.lt_of_lt_of_le hb' hb.size⟩)
      have RF : Hid (∀ W', Below wE.heap.size wE W' → Calls Tryd.prog 15 #[.string ⟨pu.toArray⟩, .slice A2 qs.length c2] W' fun e w' => e = .returned (.agg csF.toArray) ∧ Below W'.heap.size W' w') := Lib.hid fun W' hb => by
        rw [← eF]
        exact refFor_any pu A2 c2 qs (by omega) (by omega) W' (fun i hi => by
          obtain ⟨ad, e1, e2, e3⟩ := hrs2 i hi
          exact ⟨ad, e1, Nat.lt_of_lt_of_le e2 hb.size, (hb.cell (p := ad.add i) (by rw [block_add]; exact e2)).trans e3⟩)
      have LE : Hid (∀ W', Below wE.heap.size wE W' → Calls Tryd.prog 16 #[.slice (some ⟨g1, 0, none⟩) pu.length cap1] W' fun e w' => e = .returned (.agg csL.toArray) ∧ Below W'.heap.size W' w') := Lib.hid fun W' hb => by
        rw [← eL]
        exact leaf_any _ _ _ pu rfl (by omega) W' (hTE.below hb) ((hrE.kept fun a x ha h => (hb.cell (p := a) ha).trans h).mono fun b hb' => Nat.lt_of_lt_of_le hb' hb.size)
      have RL : Hid (∀ W', Below wE.heap.size wE W' → Calls Tryd.prog 17 #[.string ⟨pu.toArray⟩] W' fun e w' => e = .returned (.agg csL.toArray) ∧ Below W'.heap.size W' w') := Lib.hid fun W' _ => by
        rw [← eL]
        exact refLeaf_any pu (by omega) W'
      have NO : Hid (∀ W', Below wE.heap.size wE W' → Calls Tryd.prog 18 #[.agg cl.toArray, .agg cr.toArray] W' fun e w' => e = .returned (.agg csN.toArray) ∧ Below W'.heap.size W' w') := Lib.hid fun W' hb => by
        rw [← eN, ← el, ← er]
        exact node_any l r W' (hTE.below hb)
      have RN : Hid (∀ W', Below wE.heap.size wE W' → Calls Tryd.prog 19 #[.agg cl.toArray, .agg cr.toArray] W' fun e w' => e = .returned (.agg csN.toArray) ∧ Below W'.heap.size W' w') := Lib.hid fun W' _ => by
        rw [← eN, ← el, ← er]
        exact refNode_any l r W'
      have hqF := eql_sha (forBytes pu qs) _ rfl
      have hqL := eql_sha (0 :: pu) _ rfl
      have hqN := eql_sha (1 :: (id32 l ++ id32 r)) _ rfl
      rw [eF] at hqF
      rw [eL] at hqL
      rw [eN] at hqN
      have ALL : Hid (∀ W', Below wE.heap.size wE W' → W'.rangeAt w.heap.size 0 cl ∧ W'.rangeAt w.heap.size 32 cr) := Lib.hid fun W' hb =>
        ⟨fun j v hv => (hb.cell (p := ⟨w.heap.size, 0 + j, none⟩) hXE.lt).trans (hr1 j v hv), fun j v hv => (hb.cell (p := ⟨w.heap.size, 32 + j, none⟩) hXE.lt).trans (hr2 j v hv)⟩
      have q4 : Below wE.heap.size wE wE.drew := (Below.refl _ _).drew
      have HWE := Lib.hid hwE
      have hkk : ¬ ((k : Int) < (k : Int)) := by omega
      obtain ⟨z, hz⟩ : ∃ z, qs.length = z := ⟨_, rfl⟩
      obtain ⟨pn, hpn2⟩ : ∃ pn, pu.length = pn := ⟨_, rfl⟩
      rw [hz] at FO RF ⊢
      rw [hpn2] at LE hcvE
      clear hown hC hlst hX hb hrp hrs hln hfb hqs hrE hTE hXE hwE hrp2 hrs2 eF eF2 eL eL2 eN eN2 hr1 hr2 ecl ecr el er hll hrl hl hr hz hpn hpn2 hbE hinfo
      go_wp2_with fail
      clear hcvE
      refine wp_region_held_drew (S := fun w' => w'.rangeAt w.heap.size 0 cl ∧ w'.rangeAt w.heap.size 32 cr) (by kernel_rfl) ?_ (fun hHeld => ?_)
      · exact ALL.out _ (by (repeat' (first | assumption | exact Below.refl _ _ | refine Kp.drew ?_ | refine Kp.alloc ?_ _ | (apply Kp.call; rotate_left; assumption))))
      refine wpAnyH_take (i := 0) (oi := ⟨some 45, _, _, _, _, _⟩) (v := ?_) rfl (by kernel_rfl) (by kernel_rfl) (by kernel_rfl) (fun _ _ _ h => h) (Or.inl ⟨by rfl, ?_⟩) (by assumption) ?_
      rotate_left
      · intro w hSw; (try dsimp only at hSw); go_simp; try (with_reducible rfl)
      rotate_left 0
      try simp only [Act.put, List.setIfInBounds_toArray, List.set_cons_zero, List.set_cons_succ]
      refine wpAnyH_take (i := 1) (oi := ⟨some 46, _, _, _, _, _⟩) (v := ?_) rfl (by kernel_rfl) (by kernel_rfl) (by kernel_rfl) (fun _ _ _ h => h) (Or.inl ⟨by rfl, ?_⟩) (by assumption) ?_
      rotate_left
      · intro w hSw; (try dsimp only at hSw); go_simp; try (with_reducible rfl)
      rotate_left 0
      try simp only [Act.put, List.setIfInBounds_toArray, List.set_cons_zero, List.set_cons_succ]
      refine wpAnyH_take (i := 3) (oi := ⟨some 48, _, _, _, _, _⟩) (v := ?_) rfl (by kernel_rfl) (by kernel_rfl) (by kernel_rfl) (fun _ _ _ h => h) (Or.inl ⟨by rfl, ?_⟩) (by assumption) ?_
      rotate_left
      · intro w hSw; (try dsimp only at hSw); go_simp; try (with_reducible rfl)
      rotate_left 0
      try simp only [Act.put, List.setIfInBounds_toArray, List.set_cons_zero, List.set_cons_succ]
      refine wpAnyH_take (i := 4) (oi := ⟨some 49, _, _, _, _, _⟩) (v := ?_) rfl (by kernel_rfl) (by kernel_rfl) (by kernel_rfl) (fun _ _ _ h => h) (Or.inl ⟨by rfl, ?_⟩) (by assumption) ?_
      rotate_left
      · intro w hSw; (try dsimp only at hSw); go_simp; try (with_reducible rfl)
      rotate_left 0
      try simp only [Act.put, List.setIfInBounds_toArray, List.set_cons_zero, List.set_cons_succ]
      refine wpAnyH_ready (rs := [2]) (by kernel_rfl) (by simp) ?_
      refine AllReadyH.cons (o := ⟨some 47, _, _, _, _, _⟩) rfl (fun K hK => ?_) AllReadyH.nil
      go_simp
      refine (FO.out _ q4).mono ?_
      rintro e w5 ⟨rfl, hb5⟩
      have q5 : Below wE.heap.size wE w5 := Kp.call q4 hb5
      dsimp only
      refine hK.out _ _ ?_ (fun hHeld => ?_)
      · exact ALL.out _ q5
      clear hK K
      try simp only [Act.put, List.setIfInBounds_toArray, List.set_cons_zero, List.set_cons_succ]
      refine wpAnyH_ready (rs := [5]) (by kernel_rfl) (by simp) ?_
      refine AllReadyH.cons (o := ⟨some 50, _, _, _, _, _⟩) rfl (fun K hK => ?_) AllReadyH.nil
      go_simp
      refine (RF.out _ q5).mono ?_
      rintro e w6 ⟨rfl, hb6⟩
      have q6 : Below wE.heap.size wE w6 := Kp.call q5 hb6
      dsimp only
      refine hK.out _ _ ?_ (fun hHeld => ?_)
      · exact ALL.out _ q6
      clear hK K
      try simp only [Act.put, List.setIfInBounds_toArray, List.set_cons_zero, List.set_cons_succ]
      refine wpAnyH_take (i := 6) (oi := ⟨some 51, _, _, _, _, _⟩) (v := ?_) rfl (by kernel_rfl) (by kernel_rfl) (by kernel_rfl) (fun _ _ _ h => h) (Or.inl ⟨by rfl, ?_⟩) (by assumption) ?_
      rotate_left
      · intro w hSw; (try dsimp only at hSw); go_simp; try (with_reducible rfl)
      rotate_left 0
      try simp only [Act.put, List.setIfInBounds_toArray, List.set_cons_zero, List.set_cons_succ]
      refine wpAnyH_take (i := 7) (oi := ⟨some 52, _, _, _, _, _⟩) (v := ?_) rfl (by kernel_rfl) (by kernel_rfl) (by kernel_rfl) (fun _ _ _ h => h) (Or.inl ⟨by rfl, ?_⟩) (by assumption) ?_
      rotate_left
      · intro w hSw; (try dsimp only at hSw); go_simp; try (with_reducible rfl)
      rotate_left 0
      try simp only [Act.put, List.setIfInBounds_toArray, List.set_cons_zero, List.set_cons_succ]
      refine wpAnyH_take (i := 8) (oi := ⟨some 53, _, _, _, _, _⟩) (v := ?_) rfl (by kernel_rfl) (by kernel_rfl) (by kernel_rfl) (fun _ _ _ h => h) (Or.inl ⟨by rfl, ?_⟩) (by assumption) ?_
      rotate_left
      · intro w hSw; (try dsimp only at hSw); go_simp; try (with_reducible rfl)
      rotate_left 0
      try simp only [Act.put, List.setIfInBounds_toArray, List.set_cons_zero, List.set_cons_succ]
      refine wpAnyH_take (i := 10) (oi := ⟨some 55, _, _, _, _, _⟩) (v := ?_) rfl (by kernel_rfl) (by kernel_rfl) (by kernel_rfl) (fun _ _ _ h => h) (Or.inl ⟨by rfl, ?_⟩) (by assumption) ?_
      rotate_left
      · intro w hSw; (try dsimp only at hSw); go_simp; try (with_reducible rfl)
      rotate_left 0
      try simp only [Act.put, List.setIfInBounds_toArray, List.set_cons_zero, List.set_cons_succ]
      refine wpAnyH_ready (rs := [9]) (by kernel_rfl) (by simp) ?_
      refine AllReadyH.cons (o := ⟨some 54, _, _, _, _, _⟩) rfl (fun K hK => ?_) AllReadyH.nil
      go_simp
      refine (LE.out _ q6).mono ?_
      rintro e w7 ⟨rfl, hb7⟩
      have q7 : Below wE.heap.size wE w7 := Kp.call q6 hb7
      dsimp only
      refine hK.out _ _ ?_ (fun hHeld => ?_)
      · exact ALL.out _ q7
      clear hK K
      try simp only [Act.put, List.setIfInBounds_toArray, List.set_cons_zero, List.set_cons_succ]
      refine wpAnyH_ready (rs := [11]) (by kernel_rfl) (by simp) ?_
      refine AllReadyH.cons (o := ⟨some 56, _, _, _, _, _⟩) rfl (fun K hK => ?_) AllReadyH.nil
      go_simp
      refine (RL.out _ q7).mono ?_
      rintro e w8 ⟨rfl, hb8⟩
      have q8 : Below wE.heap.size wE w8 := Kp.call q7 hb8
      dsimp only
      refine hK.out _ _ ?_ (fun hHeld => ?_)
      · exact ALL.out _ q8
      clear hK K
      try simp only [Act.put, List.setIfInBounds_toArray, List.set_cons_zero, List.set_cons_succ]
      refine wpAnyH_take (i := 12) (oi := ⟨some 57, _, _, _, _, _⟩) (v := ?_) rfl (by kernel_rfl) (by kernel_rfl) (by kernel_rfl) (fun _ _ _ h => h) (Or.inl ⟨by rfl, ?_⟩) (by assumption) ?_
      rotate_left
      · intro w hSw; (try dsimp only at hSw); go_simp; try (with_reducible rfl)
      rotate_left 0
      try simp only [Act.put, List.setIfInBounds_toArray, List.set_cons_zero, List.set_cons_succ]
      refine wpAnyH_take (i := 13) (oi := ⟨some 58, _, _, _, _, _⟩) (v := ?_) rfl (by kernel_rfl) (by kernel_rfl) (by kernel_rfl) (fun _ _ _ h => h) (Or.inl ⟨by rfl, ?_⟩) (by assumption) ?_
      rotate_left
      · intro w hSw; (try dsimp only at hSw); go_simp; try (with_reducible rfl)
      rotate_left 0
      try simp only [Act.put, List.setIfInBounds_toArray, List.set_cons_zero, List.set_cons_succ]
      refine wpAnyH_take (i := 14) (oi := ⟨some 59, _, _, _, _, _⟩) (v := ?_) rfl (by kernel_rfl) (by kernel_rfl) (by kernel_rfl) (fun _ _ _ h => h) (Or.inl ⟨by rfl, ?_⟩) (by assumption) ?_
      rotate_left
      · intro w hSw; (try dsimp only at hSw); go_simp; try (with_reducible rfl)
      rotate_left 0
      try simp only [Act.put, List.setIfInBounds_toArray, List.set_cons_zero, List.set_cons_succ]
      refine wpAnyH_take (i := 15) (oi := ⟨some 60, _, _, _, _, _⟩) (v := ?_) rfl (by kernel_rfl) (by kernel_rfl) (by kernel_rfl) (fun _ _ _ h => h) (Or.inl ⟨by rfl, ?_⟩) (by assumption) ?_
      rotate_left
      · intro w hSw; (try dsimp only at hSw); go_simp; try (with_reducible rfl)
      rotate_left 0
      try simp only [Act.put, List.setIfInBounds_toArray, List.set_cons_zero, List.set_cons_succ]
      refine wpAnyH_take (i := 17) (oi := ⟨some 62, _, _, _, _, _⟩) (v := ?_) rfl (by kernel_rfl) (by kernel_rfl) (by kernel_rfl) (fun _ _ _ h => h) (Or.inl ⟨by rfl, ?_⟩) (by assumption) ?_
      rotate_left
      · intro w hSw; (try dsimp only at hSw); go_simp; try (with_reducible rfl)
      rotate_left 0
      try simp only [Act.put, List.setIfInBounds_toArray, List.set_cons_zero, List.set_cons_succ]
      refine wpAnyH_take (i := 20) (oi := ⟨some 65, _, _, _, _, _⟩) (v := ?_) rfl (by kernel_rfl) (by kernel_rfl) (by kernel_rfl) (fun _ _ _ h => h) (Or.inl ⟨by rfl, ?_⟩) (by assumption) ?_
      rotate_left
      · intro w hSw; (try dsimp only at hSw); go_simp; try (with_reducible rfl)
      rotate_left 0
      try simp only [Act.put, List.setIfInBounds_toArray, List.set_cons_zero, List.set_cons_succ]
      refine wpAnyH_take (i := 22) (oi := ⟨some 67, _, _, _, _, _⟩) (v := ?_) rfl (by kernel_rfl) (by kernel_rfl) (by kernel_rfl) (fun _ _ _ h => h) (Or.inl ⟨by rfl, ?_⟩) (by assumption) ?_
      rotate_left
      · intro w hSw; (try dsimp only at hSw); go_simp; try (with_reducible rfl)
      rotate_left 0
      try simp only [Act.put, List.setIfInBounds_toArray, List.set_cons_zero, List.set_cons_succ]
      refine wpAnyH_take (i := 16) (oi := ⟨some 61, _, _, _, _, _⟩) (v := _) rfl (by kernel_rfl) (by kernel_rfl) (by kernel_rfl) (fun _ _ _ h => h) (yieldsIf_load_mid (by rfl) _ _ rfl _ _ rfl cl _ (fun _ hS => hS.1) hu rfl HLI.out) (by assumption) ?_
      try simp only [Act.put, List.setIfInBounds_toArray, List.set_cons_zero, List.set_cons_succ]
      refine wpAnyH_take (i := 18) (oi := ⟨some 63, _, _, _, _, _⟩) (v := _) rfl (by kernel_rfl) (by kernel_rfl) (by kernel_rfl) (fun _ _ _ h => h) (yieldsIf_load_mid (by rfl) _ _ rfl _ _ rfl cr _ (fun _ hS => hS.2) hu rfl HRI.out) (by assumption) ?_
      try simp only [Act.put, List.setIfInBounds_toArray, List.set_cons_zero, List.set_cons_succ]
      refine wpAnyH_take (i := 21) (oi := ⟨some 66, _, _, _, _, _⟩) (v := _) rfl (by kernel_rfl) (by kernel_rfl) (by kernel_rfl) (fun _ _ _ h => h) (yieldsIf_load_mid (by rfl) _ _ rfl _ _ rfl cl _ (fun _ hS => hS.1) hu rfl HLI.out) (by assumption) ?_
      try simp only [Act.put, List.setIfInBounds_toArray, List.set_cons_zero, List.set_cons_succ]
      refine wpAnyH_take (i := 23) (oi := ⟨some 68, _, _, _, _, _⟩) (v := _) rfl (by kernel_rfl) (by kernel_rfl) (by kernel_rfl) (fun _ _ _ h => h) (yieldsIf_load_mid (by rfl) _ _ rfl _ _ rfl cr _ (fun _ hS => hS.2) hu rfl HRI.out) (by assumption) ?_
      try simp only [Act.put, List.setIfInBounds_toArray, List.set_cons_zero, List.set_cons_succ]
      refine wpAnyH_ready (rs := [19]) (by kernel_rfl) (by simp) ?_
      refine AllReadyH.cons (o := ⟨some 64, _, _, _, _, _⟩) rfl (fun K hK => ?_) AllReadyH.nil
      go_simp
      refine (NO.out _ q8).mono ?_
      rintro e w9 ⟨rfl, hb9⟩
      have q9 : Below wE.heap.size wE w9 := Kp.call q8 hb9
      dsimp only
      refine hK.out _ _ ?_ (fun hHeld => ?_)
      · exact ALL.out _ q9
      clear hK K
      try simp only [Act.put, List.setIfInBounds_toArray, List.set_cons_zero, List.set_cons_succ]
      refine wpAnyH_ready (rs := [24]) (by kernel_rfl) (by simp) ?_
      refine AllReadyH.cons (o := ⟨some 69, _, _, _, _, _⟩) rfl (fun K hK => ?_) AllReadyH.nil
      go_simp
      refine (RN.out _ q9).mono ?_
      rintro e w10 ⟨rfl, hb10⟩
      have q10 : Below wE.heap.size wE w10 := Kp.call q9 hb10
      dsimp only
      refine hK.out _ _ ?_ (fun hHeld => ?_)
      · exact ALL.out _ q10
      clear hK K
      try simp only [Act.put, List.setIfInBounds_toArray, List.set_cons_zero, List.set_cons_succ]
      refine wpAnyH_take (i := 25) (oi := ⟨some 70, _, _, _, _, _⟩) (v := ?_) rfl (by kernel_rfl) (by kernel_rfl) (by kernel_rfl) (fun _ _ _ h => h) (Or.inl ⟨by rfl, ?_⟩) (by assumption) ?_
      rotate_left
      · intro w hSw; (try dsimp only at hSw); go_simp; try (with_reducible rfl)
      rotate_left 0
      try simp only [Act.put, List.setIfInBounds_toArray, List.set_cons_zero, List.set_cons_succ]
      refine wpAnyH_take (i := 26) (oi := ⟨some 71, _, _, _, _, _⟩) (v := ?_) rfl (by kernel_rfl) (by kernel_rfl) (by kernel_rfl) (fun _ _ _ h => h) (Or.inl ⟨by rfl, ?_⟩) (by assumption) ?_
      rotate_left
      · intro w hSw; (try dsimp only at hSw); go_simp; try (with_reducible rfl)
      rotate_left 0
      try simp only [Act.put, List.setIfInBounds_toArray, List.set_cons_zero, List.set_cons_succ]
      refine wpAnyH_take (i := 27) (oi := ⟨some 6, _, _, _, _, _⟩) (v := ?_) rfl (by kernel_rfl) (by kernel_rfl) (by kernel_rfl) (fun _ _ _ h => h) (Or.inl ⟨by rfl, ?_⟩) (by assumption) ?_
      rotate_left
      · intro w hSw; (try dsimp only at hSw); go_simp; try (with_reducible rfl)
      rotate_left 0
      try simp only [Act.put, List.setIfInBounds_toArray, List.set_cons_zero, List.set_cons_succ]
      refine wpAnyH_done (by kernel_rfl) ?_ _
      clear hHeld hqF hqL hqN hb5 q5 hb6 q6 hb7 q7 hb8 q8 hb9 q9 hb10 q4 FO RF LE RL NO RN ALL hu
      have HQ := Lib.hid q10
      clear q10
      go_wp2
      go_ret
      exact ⟨rfl, HWE.out.trans (HQ.out.mono HWE.out.size)⟩
end Go.Proofs.YtghjdelijmlemaaDoor
