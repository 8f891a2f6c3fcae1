/-
  few: not more than so many, and none too long; two rows of the call's own that grow side by side. No condition.
-/
import Derived.Test.YtlnapnbccojohaaDoorShTree
import Derived.Test.YtlnapnbccojohaaDoorStrT
namespace Go.Proofs.YtlnapnbccojohaaDoor
open Go Go.RowKit Go.Shelf TreeM

set_option maxRecDepth 100000 in
theorem own_more2 {W : World} {B m m2 by1 : Nat} {t e e2 : TypeId} {v v2 x z : Value} {xs ys : List Value} (hu : Tryd.prog.underlying t = some (.slice e)) (hinfo : (Tryd.prog.info? e).map (fun i => (i.zero, i.size, i.bytes)) = some (some z, 1, by1)) (hz : z.cells.size = 1) (hby : by1 ≤ 1000)
    (hB : B ≤ W.heap.size) (ho : W.ownsRow B e 1 v m xs) (ho2 : W.ownsRow B e2 1 v2 m2 ys) (hd : ∀ i, v2.ownBlock = some i → v.ownBlock ≠ some i) (hx : x.oneCell' = true) (hm : m ≤ 1000) :
    ∃ g cap W', (Builtin.append_ #[t, t] t #[v, .slice (some ⟨W.heap.size, 0, none⟩) 1 1]).run Tryd.prog (W.alloc (.cells #[x] e)) = .ok (.slice (some ⟨g, 0, none⟩) (m + 1) cap) W' ∧
      W'.ownsRow B e 1 (.slice (some ⟨g, 0, none⟩) (m + 1) cap) (m + 1) (xs ++ [x]) ∧ W'.ownsRow B e2 1 v2 m2 ys ∧ (∀ i, v2.ownBlock = some i → i ≠ g) ∧ Below B W W' := by
  have hb : Below W.heap.size W (W.alloc (.cells #[x] e)) := (Below.refl _ _).alloc (Nat.le_refl _) _
  have o1 := Turn.own (Turn.of_below hb) ho (fun i hi => by have := (ho.lt i hi).2; omega)
  have o2 := Turn.own (Turn.of_below hb) ho2 (fun i hi => by have := (ho2.lt i hi).2; omega)
  have hg0 : Blk (W.alloc (.cells #[x] e)) W.heap.size e #[x] := Blk.new W _ _
  have hmb : (m + 1) * by1 ≤ 1001 * 1000 := Nat.mul_le_mul (by omega) hby
  obtain ⟨i0, hi, hz0, hz1, hz2⟩ := info_parts hinfo
  obtain ⟨v', W', hrun, hown', hgr, _, hbl⟩ := run_append_own_at (P := Tryd.prog) (W.alloc (.cells #[x] e)) B t t e i0 z 1 by1 hu hi hz0 hz1 hz2 hz (by omega) v m xs o1 ⟨W.heap.size, 0, none⟩ 1 1 [x] rfl
    (fun j u hu => by
      rcases j with _ | j
      · cases hu
        rw [add_zero_block, hg0.cell]; rfl
      · cases hu) (fun u hu => (List.mem_singleton.1 hu) ▸ hx) (by unfold maxLen; omega) (by omega) (Nat.le_trans hB hb.size)
  rcases ownsRow_forms' hown' with ⟨_, h0⟩ | ⟨g, cap, rfl⟩
  · omega
  · have hne : ∀ i, v2.ownBlock = some i → i ≠ g := fun i hi e => by
      subst e
      rcases hbl with h | h
      · exact hd i hi h.symm
      · have h1 : i = (W.alloc (.cells #[x] e)).heap.size := by
          injection h
        have := (ho2.lt i hi).2
        have := hb.size
        omega
    refine ⟨g, cap, W', hrun, hown', (Turn.refl (fun i => v.ownBlock = some i) _ |>.grown hgr (fun k hk _ => hk)).own o2 (fun i hi h => hd i hi h), hne, (((Turn.refl (fun i => B ≤ i) W).alloc _).grown hgr (fun i hi _ => (o1.lt i hi).1)).below hB (fun i hi => by omega)⟩
/-- Not more than twenty, and of each not more than a hundred bytes. -/
def fewL (ps : List (List UInt8)) : List (List UInt8) := (ps.take 20).map (List.take 100)
theorem fewL_step {ps : List (List UInt8)} {k : Nat} (hk : k < ps.length) (h20 : k < 20) : fewL (ps.take (k + 1)) = fewL (ps.take k) ++ [(ps.getD k []).take 100] := by
  unfold fewL
  rw [List.take_take, List.take_take, Nat.min_eq_right (by omega), Nat.min_eq_right (by omega), List.take_succ_eq_append_getElem hk, List.map_append, List.getD_eq_getElem?_getD, List.getElem?_eq_getElem hk]
  rfl
theorem fewL_skip {ps : List (List UInt8)} {k : Nat} (h20 : ¬ k < 20) : fewL (ps.take (k + 1)) = fewL (ps.take k) := by
  unfold fewL
  rw [List.take_take, List.take_take, Nat.min_eq_left (by omega), Nat.min_eq_left (by omega)]
theorem fewL_length (ps : List (List UInt8)) : (fewL ps).length ≤ 20 := by
  unfold fewL
  simp
  omega
theorem fewL_each (ps : List (List UInt8)) : ∀ p ∈ fewL ps, p.length ≤ 100 := fun p hp => by
  unfold fewL at hp
  obtain ⟨q, _, rfl⟩ := List.mem_map.1 hp
  simp
  omega
/-- A row of the call's own of slices that read old memory. -/
def OutAt (W : World) (B : Nat) (v : Value) (ts : List (List UInt8)) : Prop := ∃ vs, W.ownsRow B 50 1 v ts.length vs ∧ ∀ k, k < ts.length → ∃ u, vs[k]? = some u ∧ RdB W (fun b => b < B) u (ts.getD k [])
def TxtRow (W : World) (B : Nat) (v : Value) (ts : List (List UInt8)) : Prop := W.ownsRow B 9 1 v ts.length (ts.map fun t => .string ⟨t.toArray⟩)
theorem sh_info_str : (Tryd.prog.info? 9).map (fun i => (i.zero, i.size, i.bytes)) = some (some (.string ⟨#[]⟩), 1, 16) := by kernel_rfl
theorem sh_info_row' : (Tryd.prog.info? 50).map (fun i => (i.zero, i.size, i.bytes)) = some (some (.slice none 0 0), 1, 24) := by kernel_rfl
theorem few_more {W : World} {B : Nat} {v4 v5 : Value} {ts : List (List UInt8)} (hB : B ≤ W.heap.size) (h4 : OutAt W B v4 ts) (h5 : TxtRow W B v5 ts) (hd : ∀ i, v5.ownBlock = some i → v4.ownBlock ≠ some i) {A : Option Addr} {n c : Nat} {t : List UInt8} (hr : RdB W (fun b => b < B) (.slice A n c) t) (hm : ts.length ≤ 100) :
    ∃ g1 c1 W1 g2 c2 W2, (Builtin.append_ #[39, 39] 39 #[v4, .slice (some ⟨W.heap.size, 0, none⟩) 1 1]).run Tryd.prog (W.alloc (.cells #[.slice A n c] 50)) = .ok (.slice (some ⟨g1, 0, none⟩) (ts.length + 1) c1) W1 ∧
      (convert 50 9 (.slice A n c)).run Tryd.prog W1 = .ok (.string ⟨t.toArray⟩) W1 ∧
      (Builtin.append_ #[40, 40] 40 #[v5, .slice (some ⟨W1.heap.size, 0, none⟩) 1 1]).run Tryd.prog (W1.alloc (.cells #[.string ⟨t.toArray⟩] 9)) = .ok (.slice (some ⟨g2, 0, none⟩) (ts.length + 1) c2) W2 ∧
      OutAt W2 B (.slice (some ⟨g1, 0, none⟩) (ts.length + 1) c1) (ts ++ [t]) ∧ TxtRow W2 B (.slice (some ⟨g2, 0, none⟩) (ts.length + 1) c2) (ts ++ [t]) ∧ g2 ≠ g1 ∧ Below B W W2 := by
  obtain ⟨vs, o4, h4'⟩ := h4
  obtain ⟨g1, c1, W1, r1, p4, p5, hne, hb1⟩ := own_more2 (x := .slice A n c) Tryd.underlying39 sh_info_row' rfl (by omega) hB o4 h5 hd rfl (by omega)
  have hr1 : RdB W1 (fun b => b < B) (.slice A n c) t := hr.kept fun a x ha h => (hb1.cell (p := a) ha).trans h
  have hcv := str_rd hr1
  obtain ⟨g2, c2, W2, r2, q5, q4, hne2, hb2⟩ := own_more2 (x := .string ⟨t.toArray⟩) Tryd.underlying40 sh_info_str rfl (by omega) (Nat.le_trans hB hb1.size) p5 p4 (fun i hi h => hne i h (by cases hi; rfl)) rfl (by omega)
  refine ⟨g1, c1, W1, g2, c2, W2, r1, hcv, r2, ⟨_, by rw [List.length_append]; exact q4, fun k hk => ?_⟩, by unfold TxtRow; rw [List.length_append, List.map_append]; exact q5, fun e => hne2 g1 rfl e.symm, hb1.trans (hb2.mono (Nat.le_refl _))⟩
  have hvl : vs.length = ts.length := by have := o4.1; omega
  have keep : ∀ {u : Value} {t : List UInt8}, RdB W (fun b => b < B) u t → RdB W2 (fun b => b < B) u t := fun h => h.kept fun a x ha hx => ((hb1.trans (hb2.mono (Nat.le_refl _))).cell (p := a) ha).trans hx
  rw [List.length_append, List.length_singleton] at hk
  by_cases hkm : k < ts.length
  · obtain ⟨u, hu, hru⟩ := h4' k hkm
    refine ⟨u, by rw [List.getElem?_append_left (by omega)]; exact hu, ?_⟩
    rw [List.getD_eq_getElem?_getD, List.getElem?_append_left hkm, ← List.getD_eq_getElem?_getD]
    exact keep hru
  · obtain rfl : k = ts.length := by omega
    refine ⟨.slice A n c, by rw [List.getElem?_append_right (by omega), hvl]; simp, ?_⟩
    rw [List.getD_eq_getElem?_getD, List.getElem?_append_right (Nat.le_refl _)]
    simp only [Nat.sub_self, List.getElem?_cons_zero, Option.getD_some]
    exact keep hr
set_option maxRecDepth 100000 in
set_option maxHeartbeats 4000000 in
theorem few_any (A : Option Addr) (n cp : Nat) (ps : List (List UInt8)) (w : World) (hn : ps.length = n) (hm : n ≤ 140737488351232) (hr : RdP w (fun b => b < w.heap.size) A ps) :
    Calls Tryd.prog 19 #[.slice A n cp] w fun e w' => ∃ v4 v5, e = .returned (.tuple #[v4, v5]) ∧ OutAt w' w.heap.size v4 (fewL ps) ∧ TxtRow w' w.heap.size v5 (fewL ps) ∧ Below w.heap.size w w' := by
  have HR := Lib.hid hr
  have HN := Lib.hid hn
  have hmi : (n : Int) ≤ 140737488351232 := by omega
  clear hr hn hm
  go_enter Tryd.func19, Tryd.ntmps19
  go_wp2_with fail
  go_loopw [4, 5, 10] (fun s4 s5 s10 wr => ∃ (k : Nat) (v4 v5 : Value), k ≤ n ∧ s4 = v4 ∧ s5 = v5 ∧ s10 = .int .i64 (k : Int) ∧ OutAt wr w.heap.size v4 (fewL (ps.take k)) ∧ TxtRow wr w.heap.size v5 (fewL (ps.take k)) ∧ (∀ i, v5.ownBlock = some i → v4.ownBlock ≠ some i) ∧ Below w.heap.size w wr) (fun _ _ s10 _ => n - (intOf s10).toNat)
  case atStart =>
    refine ⟨0, _, _, Nat.zero_le _, rfl, rfl, rfl, ⟨[], World.ownsRow_nil _ _ _ _, fun k hk => by simp [fewL] at hk⟩, World.ownsRow_nil _ _ _ _, fun i hi => by simp [Value.ownBlock] at hi, Below.refl _ _⟩
  case round =>
    obtain ⟨k, v4, v5, hk, rfl, rfl, rfl, h4, h5, hd, hb⟩ := hrel
    by_cases hlt : k < n
    · have hkn : (k : Int) < (n : Int) := by omega
      have hk0 : (0 : Int) ≤ (k : Int) := by omega
      have hkb : (k : Int) ≤ 140737488351232 := by omega
      obtain ⟨ad, u, rfl, hok, hcu, hru⟩ := HR.out k (by rw [HN.out]; exact hlt)
      obtain ⟨Au, cu, rfl, hcl, _⟩ := id hru
      obtain ⟨q, hq⟩ : ∃ q, ps.getD k [] = q := ⟨_, rfl⟩
      rw [hq] at hru hcu hcl
      obtain ⟨nq, hnq⟩ : ∃ nq, q.length = nq := ⟨_, rfl⟩
      rw [hnq] at hru hcu hcl
      have hcw : wr.cell? (ad.add k) = some (.slice Au nq cu) := (hb.cell (p := ad.add k) (by rw [block_add]; exact hok)).trans hcu
      by_cases h20 : k < 20
      · have h20i : (k : Int) < 20 := by omega
        obtain ⟨m, hm⟩ : ∃ m, min nq 100 = m := ⟨_, rfl⟩
        have hm1 : m ≤ nq := by rw [← hm]; exact Nat.min_le_left _ _
        have HMI : Hid (min (nq : Int) 100 = (m : Int)) := Lib.hid (by omega)
        have hrt : RdB wr (fun b => b < w.heap.size) (.slice Au m cu) (q.take 100) := by
          obtain ⟨A', c', e, h1, h2, h3⟩ := hru
          injection e with e1 e2 e3
          subst e1; subst e3
          have hl : (q.take 100).length = m := by rw [List.length_take, hnq, Nat.min_comm]; exact hm
          refine ⟨Au, cu, by rw [hl], by rw [hl]; exact Nat.le_trans hm1 hcl, by rw [hl]; exact Nat.le_trans hm1 (hnq ▸ h2), fun h0 => ?_⟩
          rw [hl] at h0
          obtain ⟨ad', e, hok', hc⟩ := h3 (by rw [hnq]; exact Nat.lt_of_lt_of_le h0 hm1)
          refine ⟨ad', e, hok', fun j hj => ?_⟩
          rw [hl] at hj
          have hj100 : j < 100 := Nat.lt_of_lt_of_le hj (by rw [← hm]; exact Nat.min_le_right _ _)
          rw [(hb.cell (p := ad'.add j) (by rw [block_add]; exact hok')), hc j (by rw [hnq]; exact Nat.lt_of_lt_of_le hj hm1), List.getD_eq_getElem?_getD, List.getD_eq_getElem?_getD, List.getElem?_take, if_pos hj100]
        have hst := fewL_step (k := k) (ps := ps) (by rw [HN.out]; exact hlt) h20
        rw [hq] at hst
        have hfl := fewL_length (ps.take k)
        have hsl : ∀ W, (Instr.sliceAt 50 (.slice Au nq cu) none (some (.int .i64 (m : Int))) none).run Tryd.prog W = .ok (.slice Au m cu) W := fun W => run_slice_to (P := Tryd.prog) 50 5 Tryd.underlying50 (by kernel_rfl) Au nq cu m (Nat.le_trans hm1 hcl) W
        obtain ⟨g1, c1, W1, g2, c2, W2, r1, hcv, r2, n4, n5, hne, hb2⟩ := few_more hb.size h4 h5 hd hrt (by omega)
        rw [← hst] at n4 n5
        obtain ⟨L, hL⟩ : ∃ L, (fewL (ps.take k)).length = L := ⟨_, rfl⟩
        rw [hL] at r1 r2 n4 n5
        obtain ⟨s, hs⟩ : ∃ s, (⟨(q.take 100).toArray⟩ : ByteArray) = s := ⟨_, rfl⟩
        rw [hs] at hcv r2
        have R1 := Lib.hid r1
        have R2 := Lib.hid r2
        have HF := Lib.hid (And.intro n4 (And.intro n5 (And.intro hne (hb.trans (hb2.mono (Nat.le_refl _))))))
        clear h4 h5 hd hb hru hcu hrt hst hm hq hnq hcl hok r1 r2 n4 n5 hne hb2 hL hs hfl h20 hm1
        have hmin := HMI.out
        go_wp2_with (first
          | (at_builtin; refine wpList_append_run rfl (.tmp 22) (.tmp 24) _ _ rfl _ _ rfl rfl _ _ R1.out ?_)
          | (at_builtin; refine wpList_append_run rfl (.tmp 26) (.tmp 29) _ _ rfl _ _ rfl rfl _ _ R2.out ?_))
        go_roundw
        case rel => exact ⟨k + 1, _, _, hlt, rfl, rfl, by go_num, HF.out.1, HF.out.2.1, fun i hi h => by
          injection hi with hi
          injection h with h
          exact HF.out.2.2.1 (hi.trans h.symm), HF.out.2.2.2⟩
        case measure => simp [intOf]; omega
      · have h20i : ¬ (k : Int) < 20 := by omega
        have hst := fewL_skip (k := k) (ps := ps) h20
        have HF := Lib.hid (And.intro h4 (And.intro h5 (And.intro hd hb)))
        clear h4 h5 hd hb hru hcu hq hnq hcl hok h20
        go_wp2
        go_roundw
        case rel => exact ⟨k + 1, _, _, hlt, rfl, rfl, by go_num, by rw [hst]; exact HF.out.1, by rw [hst]; exact HF.out.2.1, HF.out.2.2.1, HF.out.2.2.2⟩
        case measure => simp [intOf]; omega
    · obtain rfl : k = n := by omega
      have HF := Lib.hid (And.intro h4 (And.intro h5 hb))
      clear h4 h5 hd hb
      go_wp2
      go_ret2
      refine ⟨_, _, rfl, ?_, ?_, HF.out.2.2⟩
      · have := HF.out.1
        rwa [List.take_of_length_le (by rw [HN.out]; exact Nat.le_refl _)] at this
      · have := HF.out.2.1
        rwa [List.take_of_length_le (by rw [HN.out]; exact Nat.le_refl _)] at this
end Go.Proofs.YtlnapnbccojohaaDoor
