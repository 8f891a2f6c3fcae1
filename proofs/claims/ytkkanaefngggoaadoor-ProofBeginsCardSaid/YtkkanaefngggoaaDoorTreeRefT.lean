/-
  The reference's Tops: of every list of leaves. No condition.
-/
import Derived.Test.YtkkanaefngggoaaDoorTreeRefP
import Derived.Test.YtkkanaefngggoaaDoorTreeLawT
import Derived.Test.YtkkanaefngggoaaDoorTreePart
import Derived.StillTailTactics
import Derived.Deep.CutRange
import Derived.Deep.RegionHeld3
import Derived.Laws.Tables
namespace Go.Proofs.YtkkanaefngggoaaDoor
open Go Go.RowKit Go.Shelf TreeM

theorem RdI.part {W : World} {ok : Nat → Prop} {A : Option Addr} {n c : Nat} {l : List D} (h : RdI W ok (.slice A n c) l) {k m : Nat} (hk : k + m ≤ n) : RdI W ok (.slice (cutI A c k) m (c - k)) ((l.drop k).take m) := by
  have h1 := h.drop (k := k) (by omega)
  exact h1.take (by omega)
theorem run_slice_partI {P : Program} (t e : TypeId) (ht : P.underlying t = some (.slice e)) (hs : (P.info? e).map (·.size) = some 32) (A : Option Addr) (len cap l m : Nat) (hh : l + m ≤ cap) (w : World) :
    (Instr.sliceAt t (.slice A len cap) (some (.int .i64 (l : Int))) (some (.int .i64 ((l : Int) + (m : Int)))) none).run P w = .ok (.slice (cutI A cap l) m (cap - l)) w := by
  have e0 : (l : Int) + (m : Int) = ((l + m : Nat) : Int) := by omega
  rw [e0]
  have h1 : l ≤ l + m := by omega
  have h3 : l + m - l = m := by omega
  generalize l + m = h at *
  have hsz : (sizeOf e).run P w = .ok 32 w := by
    cases hq : P.info? e with
    | none => simp [hq] at hs
    | some i => simp [sizeOf, typeInfo, hq]; simpa [hq] using hs
  simp [Instr.sliceAt, Instr.slice, run_underlying ht, Instr.sliceBounds, Instr.sliceBound, asIntOf, Sem.run_bind, hsz, cutI]
  rw [if_pos hh, if_pos h1, h3]
theorem iv_get (l : List Nat) (k : Nat) (h : k < l.length) : (iv l)[k]? = some (.int .i64 ((l.getD k 0 : Nat) : Int)) := by
  simp [iv, h]
set_option maxRecDepth 100000 in
set_option maxHeartbeats 200000 in
theorem refTops_any (v : Value) (l : List D) (w : World) (hr : RdI w (fun b => b < w.heap.size) v l) (hl : l.length ≤ 1000000) :
    Calls Tryd.prog 26 #[v] w fun e w' => ∃ v', e = .returned v' ∧ w'.ownsRow w.heap.size 30 32 v' (tops l).length (idCells (tops l)) ∧ Below w.heap.size w w' := by
  obtain ⟨A, c, rfl, hlc, _⟩ := id hr
  obtain ⟨n, hn⟩ : ∃ n, l.length = n := ⟨_, rfl⟩
  have htops := tops_all l
  rw [hn] at hr hl hlc htops ⊢
  obtain ⟨N, hN⟩ : ∃ N, (pk 0 n).length = N := ⟨_, rfl⟩
  have hN64 : N ≤ 64 := by
    rw [← hN, pk_length]
    have := pop_le 41 n (by omega)
    omega
  have hTN : (tops l).length = N := by rw [htops, List.length_map, hN]
  have HPK : Hid (Calls Tryd.prog 28 #[.int .i64 (n : Int)] w fun e w' => ∃ Aa ca Ac cc, e = .returned (.tuple #[.slice Aa N ca, .slice Ac N cc]) ∧
      w'.ownsRow w.heap.size 3 1 (.slice Aa N ca) N (iv ((pk 0 n).map (·.1))) ∧ w'.ownsRow w.heap.size 3 1 (.slice Ac N cc) N (iv ((pk 0 n).map (·.2))) ∧ Below w.heap.size w w') := Lib.hid ((refPeaks_any n (by omega) w).mono (by
    rintro e w' ⟨a, c, rfl, h1, h2, h3⟩
    rw [hN] at h1 h2
    obtain ⟨A1, c1, rfl, _⟩ := own_len h1
    obtain ⟨A2, c2, rfl, _⟩ := own_len h2
    exact ⟨A1, c1, A2, c2, rfl, h1, h2, h3⟩))
  have HR := Lib.hid hr
  have HTP := Lib.hid htops
  have HNN := Lib.hid hN
  have HLC := Lib.hid hlc
  rw [hTN]
  generalize tops l = TS at *
  have HTN := Lib.hid hTN
  clear hr htops hN hTN hn hlc
  go_enter Tryd.func26, Tryd.ntmps26
  go_wp2_with (go_at_call 28; refine HPK.out.mono ?_; rintro e W1 ⟨Aa, ca, Ac, cc, rfl, h1, h2, h3⟩; have HOA := Lib.hid h1; have HOC := Lib.hid h2; have HB1 := Lib.hid h3; clear h1 h2 h3)
  go_loopw [5, 6] (fun o i wr => ∃ k : Nat, k ≤ N ∧ i = .int .i64 (k : Int) ∧ wr.ownsRow W1.heap.size 30 32 o k (idCells (TS.take k)) ∧ Below W1.heap.size W1 wr) (fun _ i _ => N - (intOf i).toNat)
  case atStart => exact ⟨0, Nat.zero_le _, rfl, World.ownsRow_nil _ _ _ _, Below.refl _ _⟩
  case round =>
    obtain ⟨k, hk, rfl, hO, hb⟩ := hrel
    by_cases hlt : k < N
    · have hkn : (k : Int) < (N : Int) := by omega
      have hk0 : (0 : Int) ≤ (k : Int) := by omega
      have hkN1 : (k : Int) ≤ 64 := by omega
      obtain ⟨p, hp⟩ : ∃ p, (pk 0 n)[k]? = some p := ⟨_, List.getElem?_eq_getElem (by rw [HNN.out]; exact hlt)⟩
      obtain ⟨_, hpos, hpl⟩ := pk_mem n 0 p (List.mem_of_getElem? hp)
      have oa := Turn.own (Turn.of_below hb) HOA.out (fun i hi => by have := (HOA.out.lt i hi).2; omega)
      have oc := Turn.own (Turn.of_below hb) HOC.out (fun i hi => by have := (HOC.out.lt i hi).2; omega)
      obtain ⟨Ga, rfl⟩ := own_addrN oa (by omega)
      obtain ⟨Gc, rfl⟩ := own_addrN oc (by omega)
      have ka : wr.cell? ⟨Ga, k, none⟩ = some (.int .i64 (p.1 : Int)) := by
        rw [oa.cellAt k (by omega)]
        simp [iv, hp]
      have kc : wr.cell? ⟨Gc, k, none⟩ = some (.int .i64 (p.2 : Int)) := by
        rw [oc.cellAt k (by omega)]
        simp [iv, hp]
      have htk : TS[k]? = some (mth ((l.drop p.1).take p.2)) := by rw [HTP.out, List.getElem?_map, hp]; rfl
      have hsn : TS.take (k + 1) = TS.take k ++ [mth ((l.drop p.1).take p.2)] := by
        rw [List.take_add_one, htk]; rfl
      obtain ⟨a, ha⟩ : ∃ a, p.1 = a := ⟨_, rfl⟩
      obtain ⟨m, hm⟩ : ∃ m, p.2 = m := ⟨_, rfl⟩
      rw [ha] at ka hsn hpl
      rw [hm] at kc hsn hpl
      have ha1 : (a : Int) ≤ 1000000 := by omega
      have hm1 : (m : Int) ≤ 1000000 := by omega
      have ha0 : (0 : Int) ≤ (a : Int) := by omega
      have hm0 : (0 : Int) ≤ (m : Int) := by omega
      have sl := run_slice_partI (P := Tryd.prog) 22 30 Tryd.underlying22 (by kernel_rfl) A n c a m (by have := HLC.out; omega)
      have hbw : Below w.heap.size w wr := HB1.out.trans (hb.mono HB1.out.size)
      obtain ⟨f, hf⟩ : ∃ f, mth ((l.drop a).take m) = f := ⟨_, rfl⟩
      have HRF : Hid (∀ W, Below w.heap.size w W → Calls Tryd.prog 22 #[.slice (cutI A c a) m (c - a)] W fun e w' => e = .returned (.agg (arr 32 fun i => bv (f i))) ∧ Below W.heap.size W w') := Lib.hid fun W hb => by
        rw [← hf]
        exact refRoot_any ((l.drop a).take m).length _ _ W rfl (by simp; omega) (((HR.out.part (k := a) (m := m) (by omega)).old hb).mono fun b hb' => Nat.lt_of_lt_of_le hb' hb.size)
      rw [hf] at hsn
      have HSN := Lib.hid hsn
      obtain ⟨A2, hA2⟩ : ∃ A2, cutI A c a = A2 := ⟨_, rfl⟩
      obtain ⟨d, hd⟩ : ∃ d, c - a = d := ⟨_, rfl⟩
      rw [hA2, hd] at HRF sl
      have HB := Lib.hid hb
      have HBW := Lib.hid hbw
      obtain ⟨Ao, co, rfl, _⟩ := own_len hO
      have HO := Lib.hid hO
      clear hp hf hsn hA2 hd hb hbw hO oa oc htk ha hm hpl hpos
      have HSX : Hid (∀ W', Below wr.heap.size wr W' → W'.cell? ⟨Ga, k, none⟩ = some (.int .i64 (a : Int)) ∧ W'.cell? ⟨Gc, k, none⟩ = some (.int .i64 (m : Int))) := Lib.hid fun W' hb => ⟨(hb.cell (p := ⟨Ga, k, none⟩) (block_lt_of_cell ka)).trans ka, (hb.cell (p := ⟨Gc, k, none⟩) (block_lt_of_cell kc)).trans kc⟩
      have hbX : Below wr.heap.size wr wr.drew := (Below.refl _ _).drew
      have hwrp : IntKind.i64.wrap ((a : Int) + (m : Int)) = (a : Int) + (m : Int) := by rw [IntKind.wrap_i64]; omega
      clear ka kc
      go_upto_region 6 with fail
      go_cut [7] from 14 to 39 (fun s7 wx => ∃ b, s7 = .pointer (some ⟨b, 0, none⟩) ∧ Blk wx b 30 (arr 32 fun i => bv (f i)) ∧ Below wr.heap.size wr wx)
      case first =>
        refine wp_region_held_drew (S := fun W' => W'.cell? ⟨Ga, k, none⟩ = some (.int .i64 (a : Int)) ∧ W'.cell? ⟨Gc, k, none⟩ = some (.int .i64 (m : Int))) (by kernel_rfl) ?_ (fun hHeld => ?_)
        · exact HSX.out _ hbX
        refine wpAnyH_take (i := 0) (oi := ⟨some 20, _, _, _, _, _⟩) (v := ?_) rfl (by kernel_rfl) (by kernel_rfl) (by kernel_rfl) (fun _ _ _ h => h) (Or.inl ⟨by rfl, ?_⟩) (by assumption) ?_
        rotate_left
        · intro w hSw; (try dsimp only at hSw); go_simp; try (with_reducible rfl)
        rotate_left 0
        try simp only [Act.put, List.setIfInBounds_toArray, List.set_cons_zero, List.set_cons_succ]
        refine wpAnyH_take (i := 1) (oi := ⟨some 21, _, _, _, _, _⟩) (v := ?_) rfl (by kernel_rfl) (by kernel_rfl) (by kernel_rfl) (fun _ _ _ h => h) (Or.inl ⟨by rfl, ?_⟩) (by assumption) ?_
        rotate_left
        · intro w hSw; (try dsimp only at hSw); go_simp; try (with_reducible rfl)
        rotate_left 0
        try simp only [Act.put, List.setIfInBounds_toArray, List.set_cons_zero, List.set_cons_succ]
        refine wpAnyH_take (i := 2) (oi := ⟨some 22, _, _, _, _, _⟩) (v := ?_) rfl (by kernel_rfl) (by kernel_rfl) (by kernel_rfl) (fun _ _ _ h => h) (Or.inl ⟨by rfl, ?_⟩) (by assumption) ?_
        rotate_left
        · intro w hSw; (try dsimp only at hSw); go_simp; try (with_reducible rfl)
        rotate_left 0
        try simp only [Act.put, List.setIfInBounds_toArray, List.set_cons_zero, List.set_cons_succ]
        refine wpAnyH_take (i := 3) (oi := ⟨some 23, _, _, _, _, _⟩) (v := ?_) rfl (by kernel_rfl) (by kernel_rfl) (by kernel_rfl) (fun _ _ _ h => h) (Or.inl ⟨by rfl, ?_⟩) (by assumption) ?_
        rotate_left
        · intro w hSw; (try dsimp only at hSw); go_simp; try (with_reducible rfl)
        rotate_left 0
        try simp only [Act.put, List.setIfInBounds_toArray, List.set_cons_zero, List.set_cons_succ]
        refine wpAnyH_take (i := 4) (oi := ⟨some 24, _, _, _, _, _⟩) (v := ?_) rfl (by kernel_rfl) (by kernel_rfl) (by kernel_rfl) (fun _ _ _ h => h) (Or.inl ⟨by rfl, ?_⟩) (by assumption) ?_
        rotate_left
        · intro w hSw; (try dsimp only at hSw); obtain ⟨ka', kc'⟩ := hSw; go_simp; try (with_reducible rfl)
        rotate_left 0
        try simp only [Act.put, List.setIfInBounds_toArray, List.set_cons_zero, List.set_cons_succ]
        refine wpAnyH_take (i := 5) (oi := ⟨some 25, _, _, _, _, _⟩) (v := ?_) rfl (by kernel_rfl) (by kernel_rfl) (by kernel_rfl) (fun _ _ _ h => h) (Or.inl ⟨by rfl, ?_⟩) (by assumption) ?_
        rotate_left
        · intro w hSw; (try dsimp only at hSw); go_simp; try (with_reducible rfl)
        rotate_left 0
        try simp only [Act.put, List.setIfInBounds_toArray, List.set_cons_zero, List.set_cons_succ]
        refine wpAnyH_take (i := 6) (oi := ⟨some 26, _, _, _, _, _⟩) (v := ?_) rfl (by kernel_rfl) (by kernel_rfl) (by kernel_rfl) (fun _ _ _ h => h) (Or.inl ⟨by rfl, ?_⟩) (by assumption) ?_
        rotate_left
        · intro w hSw; (try dsimp only at hSw); go_simp; try (with_reducible rfl)
        rotate_left 0
        try simp only [Act.put, List.setIfInBounds_toArray, List.set_cons_zero, List.set_cons_succ]
        refine wpAnyH_take (i := 7) (oi := ⟨some 27, _, _, _, _, _⟩) (v := ?_) rfl (by kernel_rfl) (by kernel_rfl) (by kernel_rfl) (fun _ _ _ h => h) (Or.inl ⟨by rfl, ?_⟩) (by assumption) ?_
        rotate_left
        · intro w hSw; (try dsimp only at hSw); go_simp; try (with_reducible rfl)
        rotate_left 0
        try simp only [Act.put, List.setIfInBounds_toArray, List.set_cons_zero, List.set_cons_succ]
        refine wpAnyH_take (i := 8) (oi := ⟨some 28, _, _, _, _, _⟩) (v := ?_) rfl (by kernel_rfl) (by kernel_rfl) (by kernel_rfl) (fun _ _ _ h => h) (Or.inl ⟨by rfl, ?_⟩) (by assumption) ?_
        rotate_left
        · intro w hSw; (try dsimp only at hSw); obtain ⟨ka', kc'⟩ := hSw; go_simp; try (with_reducible rfl)
        rotate_left 0
        try simp only [Act.put, List.setIfInBounds_toArray, List.set_cons_zero, List.set_cons_succ]
        refine wpAnyH_take (i := 9) (oi := ⟨some 29, _, _, _, _, _⟩) (v := ?_) rfl (by kernel_rfl) (by kernel_rfl) (by kernel_rfl) (fun _ _ _ h => h) (Or.inl ⟨by rfl, ?_⟩) (by assumption) ?_
        rotate_left
        · intro w hSw; (try dsimp only at hSw); go_simp; try (with_reducible rfl)
        rotate_left 0
        try simp only [Act.put, List.setIfInBounds_toArray, List.set_cons_zero, List.set_cons_succ]
        refine wpAnyH_take (i := 10) (oi := ⟨some 30, _, _, _, _, _⟩) (v := ?_) rfl (by kernel_rfl) (by kernel_rfl) (by kernel_rfl) (fun _ _ _ h => h) (Or.inl ⟨by rfl, ?_⟩) (by assumption) ?_
        rotate_left
        · intro w hSw; (try dsimp only at hSw); go_simp; try (with_reducible rfl)
        rotate_left 0
        try simp only [Act.put, List.setIfInBounds_toArray, List.set_cons_zero, List.set_cons_succ]
        refine wpAnyH_take (i := 11) (oi := ⟨some 31, _, _, _, _, _⟩) (v := ?_) rfl (by kernel_rfl) (by kernel_rfl) (by kernel_rfl) (fun _ _ _ h => h) (Or.inl ⟨by rfl, ?_⟩) (by assumption) ?_
        rotate_left
        · intro w hSw; (try dsimp only at hSw); go_simp; try (with_reducible rfl)
        rotate_left 0
        try simp only [Act.put, List.setIfInBounds_toArray, List.set_cons_zero, List.set_cons_succ]
        refine wpAnyH_take (i := 12) (oi := ⟨some 32, _, _, _, _, _⟩) (v := ?_) rfl (by kernel_rfl) (by kernel_rfl) (by kernel_rfl) (fun _ _ _ h => h) (Or.inl ⟨by rfl, ?_⟩) (by assumption) ?_
        rotate_left
        · intro w hSw; (try dsimp only at hSw); obtain ⟨ka', kc'⟩ := hSw; go_simp; try (with_reducible rfl)
        rotate_left 0
        try simp only [Act.put, List.setIfInBounds_toArray, List.set_cons_zero, List.set_cons_succ]
        refine wpAnyH_take (i := 13) (oi := ⟨some 33, _, _, _, _, _⟩) (v := ?_) rfl (by kernel_rfl) (by kernel_rfl) (by kernel_rfl) (fun _ _ _ h => h) (Or.inl ⟨by rfl, ?_⟩) (by assumption) ?_
        rotate_left
        · intro w hSw; (try dsimp only at hSw); go_simp; try (with_reducible rfl)
        rotate_left 0
        try simp only [Act.put, List.setIfInBounds_toArray, List.set_cons_zero, List.set_cons_succ]
        refine wpAnyH_take (i := 14) (oi := ⟨some 34, _, _, _, _, _⟩) (v := ?_) rfl (by kernel_rfl) (by kernel_rfl) (by kernel_rfl) (fun _ _ _ h => h) (Or.inl ⟨by rfl, ?_⟩) (by assumption) ?_
        rotate_left
        · intro w hSw; (try dsimp only at hSw); go_simp; try (with_reducible rfl)
        rotate_left 0
        try simp only [Act.put, List.setIfInBounds_toArray, List.set_cons_zero, List.set_cons_succ]
        refine wpAnyH_ready (rs := [15, 16]) (by kernel_rfl) (by simp) ?_
        refine (AllReadyH.cons (o := ⟨some 35, _, _, _, _, _⟩) rfl (fun K hK => ?_) (AllReadyH.cons (o := ⟨some 7, _, _, _, _, _⟩) rfl (fun K hK => ?_) AllReadyH.nil))
        · (try rw [if_pos (by rfl)])
          go_simp
          refine (HRF.out _ (HBW.out.trans (hbX.mono HBW.out.size))).mono ?_
          rintro e W5 ⟨rfl, hb5⟩
          (try replace hkB := Blk.below hkB hb5 (Blk.lt hkB))
          replace hbX := hbX.trans (hb5.mono hbX.size)
          try dsimp only
          refine hK.out _ _ (HSX.out _ hbX) (fun hHeld => ?_)
          clear hK K
          try simp only [Act.put, List.setIfInBounds_toArray, List.set_cons_zero, List.set_cons_succ]
          refine wpAnyH_ready (rs := [16]) (by kernel_rfl) (by simp) ?_
          refine (AllReadyH.cons (o := ⟨some 7, _, _, _, _, _⟩) rfl (fun K hK => ?_) AllReadyH.nil)
          (try rw [if_pos (by rfl)])
          go_simp
          have hge := hbX.size
          first | refine alloc_gen ?_ | refine alloc_genD ?_
          intro Wa hka hba
          have hkB := hka
          replace hbX : Below wr.heap.size wr Wa := by first | exact hbX.trans (hba.mono hbX.size) | exact hba
          try dsimp only
          refine hK.out _ _ (HSX.out _ hbX) (fun hHeld => ?_)
          clear hK K
          try simp only [Act.put, List.setIfInBounds_toArray, List.set_cons_zero, List.set_cons_succ]
          refine wpAnyH_ready (rs := [17]) (by kernel_rfl) (by simp) ?_
          refine (AllReadyH.cons (o := ⟨none, _, _, _, _, _⟩) rfl (fun K hK => ?_) AllReadyH.nil)
          (try rw [if_pos (by rfl)])
          refine wp_store_row 30 _ _ rfl _ (arr 32 fun i => bv (f i)) rfl rfl 30 _ hkB (by rw [arr_size]; kernel_rfl) (by rw [arr_size]; rfl) (arr_all_bv _ _) ?_
          replace hbX := below_setRow hbX hge (arr 32 fun i => bv (f i))
          replace hkB := Blk.setRow hkB (arr 32 fun i => bv (f i))
          try dsimp only
          refine hK.out _ _ (HSX.out _ hbX) (fun hHeld => ?_)
          clear hK K
          try simp only [Act.put]
          refine wpAnyH_done (by kernel_rfl) ?_ _
          go_wp2_with fail
          go_meet
          exact ⟨_, rfl, hkB, hbX⟩
        · (try rw [if_pos (by rfl)])
          go_simp
          have hge := hbX.size
          first | refine alloc_gen ?_ | refine alloc_genD ?_
          intro Wa hka hba
          have hkB := hka
          replace hbX : Below wr.heap.size wr Wa := by first | exact hbX.trans (hba.mono hbX.size) | exact hba
          try dsimp only
          refine hK.out _ _ (HSX.out _ hbX) (fun hHeld => ?_)
          clear hK K
          try simp only [Act.put, List.setIfInBounds_toArray, List.set_cons_zero, List.set_cons_succ]
          refine wpAnyH_ready (rs := [15]) (by kernel_rfl) (by simp) ?_
          refine (AllReadyH.cons (o := ⟨some 35, _, _, _, _, _⟩) rfl (fun K hK => ?_) AllReadyH.nil)
          (try rw [if_pos (by rfl)])
          go_simp
          refine (HRF.out _ (HBW.out.trans (hbX.mono HBW.out.size))).mono ?_
          rintro e W5 ⟨rfl, hb5⟩
          (try replace hkB := Blk.below hkB hb5 (Blk.lt hkB))
          replace hbX := hbX.trans (hb5.mono hbX.size)
          try dsimp only
          refine hK.out _ _ (HSX.out _ hbX) (fun hHeld => ?_)
          clear hK K
          try simp only [Act.put, List.setIfInBounds_toArray, List.set_cons_zero, List.set_cons_succ]
          refine wpAnyH_ready (rs := [17]) (by kernel_rfl) (by simp) ?_
          refine (AllReadyH.cons (o := ⟨none, _, _, _, _, _⟩) rfl (fun K hK => ?_) AllReadyH.nil)
          (try rw [if_pos (by rfl)])
          refine wp_store_row 30 _ _ rfl _ (arr 32 fun i => bv (f i)) rfl rfl 30 _ hkB (by rw [arr_size]; kernel_rfl) (by rw [arr_size]; rfl) (arr_all_bv _ _) ?_
          replace hbX := below_setRow hbX hge (arr 32 fun i => bv (f i))
          replace hkB := Blk.setRow hkB (arr 32 fun i => bv (f i))
          try dsimp only
          refine hK.out _ _ (HSX.out _ hbX) (fun hHeld => ?_)
          clear hK K
          try simp only [Act.put]
          refine wpAnyH_done (by kernel_rfl) ?_ _
          go_wp2_with fail
          go_meet
          exact ⟨_, rfl, hkB, hbX⟩
      case rest =>
        obtain ⟨b, rfl, hkB, hbX⟩ := hcut
        have HKB := Lib.hid hkB
        have HBX := Lib.hid hbX
        have oX := Turn.own (Turn.of_below hbX) HO.out (fun i hi => by have := (HO.out.lt i hi).2; omega)
        have hb6 : Below wc.heap.size wc (wc.alloc (.cells (arr 32 fun i => bv (f i)) 30)) := (Below.refl _ _).alloc (Nat.le_refl _) _
        have o6 := Turn.own (Turn.of_below hb6) oX (fun i hi => by have := (oX.lt i hi).2; omega)
        have hs1 := HB.out.size
        have hs2 := hbX.size
        obtain ⟨g, cap, W7, hrun, ho7, hgr, hg⟩ := app_id (B := W1.heap.size) (by have := hb6.size; omega) o6 f (Blk.new wc _ _) (by omega)
        have t7 : Turn (fun i => W1.heap.size ≤ i) W1 W7 := by
          have q0 : Turn (fun i => W1.heap.size ≤ i) W1 wr := (Turn.of_below HB.out).mono (fun i _ hi => by omega)
          have q1 : Turn (fun i => W1.heap.size ≤ i) W1 wc := q0.trans (Turn.of_below hbX) (fun i _ hi => by omega)
          exact (q1.alloc _).grown hgr (fun i hi _ => (oX.lt i hi).1)
        have HE : Hid (W7.ownsRow W1.heap.size 30 32 (.slice (some ⟨g, 0, none⟩) (k + 1) cap) (k + 1) (idCells (TS.take (k + 1))) ∧ Below W1.heap.size W1 W7) := Lib.hid ⟨by rw [HSN.out, idCells_append, idCells_one]; exact ho7, t7.below (Nat.le_refl _) (fun i hi => by omega)⟩
        have R7 := Lib.hid hrun
        clear hkB hbX oX o6 hb6 hrun ho7 hgr hg t7 hs1 hs2
        go_wp2_with (first
          | (refine wpList_load_arr rfl 30 _ rfl b rfl 30 (arr 32 fun i => bv (f i)) _ HKB.out Tryd.underlying30 rfl (by rw [arr_size]; kernel_rfl) ?_)
          | (guard_target = wpList _ _ _ (Oper.mk _ (.buildSlice _ _ _) _ _ _ _ :: _) _ _; go_must (refine wpList_build_idA rfl _ rfl f rfl ?_))
          | (at_builtin; refine wpList_append_run rfl (.tmp 36) (.tmp 38) _ _ rfl _ _ rfl rfl _ _ R7.out ?_))
        go_roundw
        case rel => exact ⟨k + 1, by omega, by go_num, HE.out⟩
        case measure => simp [intOf]; omega
    · obtain rfl : k = N := by omega
      have HE := Lib.hid hO
      have HB := Lib.hid hb
      clear hO hb
      go_wp2
      go_ret
      refine ⟨_, rfl, ?_, HB1.out.trans (HB.out.mono HB1.out.size)⟩
      have := HE.out
      rw [List.take_of_length_le (by rw [HTN.out]; omega)] at this
      exact own_mono this HB1.out.size
end Go.Proofs.YtkkanaefngggoaaDoor
