/-
  Several ways to agreement: what one does goes to all others. No condition.
-/
import Derived.Test.YtbgojlcciealiaaRndHalM
namespace Go.Proofs.Ytbgojlcciealiaa
open Go Go.RowKit Go.Maps

theorem OwnA.keepB {b : Nat} {w w' : World} {v : Value} {l : List ActS} (h : OwnA b w v l) (hk : ∀ g cs, Blk w g 71 cs → w'.heap[g]? = w.heap[g]?) : OwnA b w' v l :=
  ⟨h.1, h.2.1, row_eq h.2.2 fun g hg => by
    obtain ⟨cs, h1, _⟩ := row_at h.2.2 hg
    exact hk g cs h1⟩
theorem OwnA.sliceH {b nl : Nat} {w : World} {v : Value} {l : List ActS} (h : OwnA b w v l) (hn : l.length = nl) : ∃ A c, v = .slice A nl c := by
  obtain ⟨_, Aq, c, h1, _⟩ := h.rd
  exact ⟨Aq, c, by rw [h1, hn]⟩
theorem row_slice {W : World} {b e k n : Nat} {v : Value} {xs : List Value} (h : W.ownsRow b e k v n xs) : ∃ A c, v = .slice A n c := by
  rcases h.2 with ⟨rfl, rfl⟩ | ⟨g, cap, cur, rfl, _⟩
  · exact ⟨none, 0, rfl⟩
  · exact ⟨_, cap, rfl⟩
theorem index_ids (g n i : Nat) (hi : i < n) (w : World) : (Instr.indexAt 49 (.slice (some ⟨g, 0, none⟩) n n) (.int .i64 (i : Int))).run Try.prog w = .ok (.pointer (some ⟨g, i * 32, none⟩)) w := by
  have hk1 : (i : Int) < (n : Int) := by omega
  have hu := Try.underlying49
  simp [Instr.indexAt, run_underlying hu, hi, go_sem]
theorem yields_indexH {P : Program} {ops : Array Oper} {S : World → Prop} {op : Oper} {a : Act} (hw : Region.wanted op (yielded ops a.tmps) = true) (t : TypeId) (x y : Operand) (ho : op.op = .indexAddr t x y) (vx vy v : Value) (hx : a.eval x = vx) (hy : a.eval y = vy) (hrun : ∀ w, (Instr.indexAt t vx vy).run P w = .ok v w) : YieldsIf P ops S op v a :=
  .inl ⟨hw, fun w _ => by
    unfold execOp
    simp only [ho, hx, hy, Sem.run_bind, hrun, Sem.run_pure, Result.andThen_ok]⟩
theorem act_idH {W : World} {g t : Nat} {v : ActS} (h : Blk W g t (actA v)) (hv : ActOk v) : (Instr.loadAt 24 (.pointer (some ⟨g, 4, none⟩))).run Try.prog W = .ok (idv v.id) W :=
  run_load_id W _ _ hv.id fun j hj => by
    rw [show (⟨g, 4, none⟩ : Addr).add j = ⟨g, 4 + j, none⟩ by simp [Addr.add], h.cell]
    have hid := hv.id
    unfold IdOk at hid
    unfold actA actC
    rw [List.getElem?_toArray, show 4 + j = j + 1 + 1 + 1 + 1 by omega, List.getElem?_cons_succ, List.getElem?_cons_succ, List.getElem?_cons_succ, List.getElem?_cons_succ, List.getElem?_map, List.getElem?_eq_getElem (by omega), List.getD_eq_getElem?_getD, List.getElem?_eq_getElem (by omega)]
    rfl
theorem HallM.cell {b : Nat} {W : World} {H : Nat} {h : HM} (k : HallM b W H h) {j : Nat} (hj : j < 4) : W.cell? ⟨h.Hb, j, none⟩ = some (haF (h.va H) h.vm (h.vd H) H j) := by
  rw [k.blk.cell, arr_get, if_pos hj]
theorem run_build_mail (v : MailS) (hv : MailOk v) (w : World) : (Instr.buildSlice 80 1 #[(0, .agg (mailA v))]).run Try.prog w = .ok (.slice (some ⟨w.heap.size, 0, none⟩) 1 1) (w.alloc (.cells (mailA v) 85)) := by
  have hf := mail_built v hv
  unfold Program.builtSlice at hf
  cases hie : Try.prog.info? 85 with
  | none => simp [hie] at hf
  | some ie =>
    simp only [hie] at hf
    cases hz : ie.zero with
    | none => simp [hz] at hf
    | some z =>
      simp only [hz] at hf
      by_cases hc : 1 * ie.size > 2 ^ 24 ∨ 1 * ie.size = 0
      · rw [if_pos hc] at hf
        cases hf
      · rw [if_neg hc] at hf
        exact run_buildSlice w 80 85 1 #[(0, .agg (mailA v))] _ ie z Try.underlying80 hie hz (fun h' => hc (Or.inl h')) (fun h' => hc (Or.inr h')) hf
theorem oper_build_mail {o : Oper} {a : Act} {w : World} {K : Act → World → Prop} {Q : Exit → Act → World → Prop} (x : Operand) (ho : o.op = .buildSlice 80 1 #[(0, x)]) (v : MailS) (hv : MailOk v) (hx : a.eval x = .agg (mailA v))
    (h : K (a.put o.dst (.slice (some ⟨w.heap.size, 0, none⟩) 1 1)) (w.alloc (.cells (mailA v) 85))) : Oper.wp Try.prog o a w K Q := by
  have hr := run_build_mail v hv w
  have hp : (#[(0, x)] : Array (Nat × Operand)).map (fun (i, x) => (i, a.eval x)) = #[(0, .agg (mailA v))] := by simp [hx]
  unfold Oper.wp execOp
  simp only [ho, hp, Sem.run_bind, hr, Result.andThen_ok]
  exact h
set_option maxRecDepth 100000 in
set_option maxHeartbeats 8000000 in
theorem take_any {b : Nat} {W : World} {H : Nat} {h : HM} (k : HallM b W H h) (hw : b ≤ W.heap.size) (i : Nat) (hi : i < H) (hH : H ≤ 7) (bq : Nat) (v : Value) (lg : List ActS) (ho : OwnA bq W v lg) : Calls Try.prog 38 #[.pointer (some ⟨h.Hb, 0, none⟩), .int .i64 (i : Int), v] W fun e w' => (∃ u, e = .returned u) ∧ Below b W w' ∧ ∃ vm', HallM b w' H { h with vm := vm', ms := lg.foldl (takeM1 H i) h.ms, ds := lg.foldl (takeD1 i) h.ds } ∧ Oth W w' h vm' := by
  obtain ⟨nl, hnl⟩ : ∃ nl, lg.length = nl := ⟨_, rfl⟩
  have hnb : nl ≤ 1000000 := hnl ▸ ho.2.1
  obtain ⟨Aq, cq, rfl⟩ := ho.sliceH hnl
  have HNL := Lib.hid hnl
  have HK := Lib.hid k
  have HO := Lib.hid ho
  have HW := Lib.hid hw
  have HI := Lib.hid hi
  have HH7 := Lib.hid hH
  have hi0 : (0 : Int) ≤ (i : Int) := by omega
  have hiH : (i : Int) < (H : Int) := by omega
  clear hnl k ho hw hi
  go_enter Try.func38, Try.ntmps38
  go_upto_region 1 with fail
  go_loopw [11] (fun s11 wr => ∃ (j : Nat) (vm : Value), j ≤ nl ∧ s11 = .int .i64 (j : Int) ∧ HallM b wr H { h with vm := vm, ms := (lg.take j).foldl (takeM1 H i) h.ms, ds := (lg.take j).foldl (takeD1 i) h.ds } ∧ Below b W wr ∧ Oth W wr h vm ∧ OwnA bq wr (.slice Aq nl cq) lg) (fun s11 _ => nl - (intOf s11).toNat)
  case atStart => exact ⟨0, h.vm, Nat.zero_le _, rfl, HK.out, Below.refl _ _, Oth.refl _ _, HO.out⟩
  case round =>
    obtain ⟨j, vm, hj, rfl, hM, hB, hT, hO⟩ := hrel
    by_cases hjl : j < nl
    · have hji : (j : Int) < (nl : Int) := by omega
      have hj0 : (0 : Int) ≤ (j : Int) := by omega
      obtain ⟨x, hxk⟩ : ∃ x, lg[j]? = some x := ⟨_, List.getElem?_eq_getElem (by rw [HNL.out]; exact hjl)⟩
      obtain ⟨adx, cx, hex, hxo, _, hla⟩ := hO.rd.here hxk
      rw [HNL.out] at hex
      obtain ⟨rfl, -, rfl⟩ := Value.slice.inj hex
      have HLA := Lib.hid hla
      have HXO := Lib.hid hxo
      have HXK := Lib.hid hxk
      clear hxk hex hxo hla
      go_upto_region 3 with (first
  | (guard_target = wpList _ _ _ (Oper.mk _ (.load 71 _) _ _ _ _ :: _) _ _; refine wpList_load_runS (by rfl) 71 _ rfl _ _ rfl (HLA.out _ (Below.refl _ _)) ?_)
  | (guard_target = wpList _ _ _ (Oper.mk _ (.store 71 _ _) _ _ _ _ :: _) _ _; refine wpList_store_actL rfl _ _ rfl wr.heap.size x rfl rfl HXO.out 71 _ (Blk.newAt _ _ rfl rfl) rfl ?_; intro W8 hS8 hz8 hb8 hk8; have hbn := (((Below.refl _ wr).alloc (Nat.le_refl _) _).trans hb8); replace hM := hM.below hbn; replace hO := hO.below hbn; replace hB := hB.trans (hbn.mono (Nat.le_trans HW.out hB.size)); replace hT := hT.below hbn; clear hz8 hb8 hk8 hbn))
      have ck : W8.cell? ⟨wr.heap.size, 0, none⟩ = some (.int .i64 x.kind) := by rw [hS8.cell]; rfl
      by_cases h4 : x.kind = 4
      · have HX4 := Lib.hid h4
        rw [h4] at ck
        clear h4
        go_upto_region 4 with fail
        clear ck
        replace hM := hM.below (Below.refl _ W8).drew
        replace hO := hO.drew
        replace hB := hB.trans ((Below.refl _ W8).drew.mono (Nat.le_trans HW.out hB.size))
        replace hS8 := hS8.drew
        replace hT := hT.below (Below.refl _ W8).drew
        refine wp_region_held_drew (S := fun W' => W'.cell? ⟨h.Hb, 3, none⟩ = some (.slice (some ⟨h.Db, 0, none⟩) H H) ∧ (Instr.loadAt 24 (.pointer (some ⟨wr.heap.size, 4, none⟩))).run Try.prog W' = .ok (idv x.id) W') (by kernel_rfl) ?_ (fun hHeld => ?_)
        · exact ⟨hM.cell (j := 3) (by omega), act_idH hS8 HXO.out⟩
        refine tkH (v := ?_) 0 ⟨some 18, _, _, _, _, _⟩ rfl (Or.inl ⟨by rfl, ?_⟩) ?_
        rotate_left
        · intro w hSw; (try dsimp only at hSw); go_simp; try (with_reducible rfl)
        try simp only [Act.put, nz1, nz2, nz3]
        refine tkH (v := ?_) 1 ⟨some 19, _, _, _, _, _⟩ rfl (Or.inl ⟨by rfl, ?_⟩) ?_
        rotate_left
        · intro w hSw; (try dsimp only at hSw); go_simp; try (with_reducible rfl)
        try simp only [Act.put, nz1, nz2, nz3]
        refine tkH (v := ?_) 2 ⟨some 20, _, _, _, _, _⟩ rfl (Or.inl ⟨by rfl, ?_⟩) ?_
        rotate_left
        · intro w hSw; (try dsimp only at hSw); go_simp; try (with_reducible rfl)
        try simp only [Act.put, nz1, nz2, nz3]
        refine tkH (v := (.slice (some ⟨h.Db, 0, none⟩) H H)) 3 ⟨some 21, _, _, _, _, _⟩ rfl (yields_one (by rfl) 49 _ rfl ⟨h.Hb, 3, none⟩ rfl _ _ (fun W' hS => hS.1) Try.underlying49 rfl) ?_
        try simp only [Act.put, nz1, nz2, nz3]
        refine tkH (v := ?_) 4 ⟨some 22, _, _, _, _, _⟩ rfl (Or.inl ⟨by rfl, ?_⟩) ?_
        rotate_left
        · intro w hSw; (try dsimp only at hSw); go_simp; try (with_reducible rfl)
        try simp only [Act.put, nz1, nz2, nz3]
        refine tkH (v := ?_) 5 ⟨some 23, _, _, _, _, _⟩ rfl (Or.inl ⟨by rfl, ?_⟩) ?_
        rotate_left
        · intro w hSw; (try dsimp only at hSw); go_simp; try (with_reducible rfl)
        try simp only [Act.put, nz1, nz2, nz3]
        refine tkH (v := (idv x.id)) 6 ⟨some 24, _, _, _, _, _⟩ rfl (yields_run (by rfl) 24 _ rfl (.pointer (some ⟨wr.heap.size, 4, none⟩)) _ rfl (fun W' hS => hS.2)) ?_
        try simp only [Act.put, nz1, nz2, nz3]
        refine tkH (v := (.pointer (some ⟨h.Db, i * 32, none⟩))) 7 ⟨some 25, _, _, _, _, _⟩ rfl (yields_indexH (by rfl) 49 _ _ rfl (.slice (some ⟨h.Db, 0, none⟩) H H) (.int .i64 (i : Int)) _ rfl rfl (fun w => index_ids h.Db H i HI.out w)) ?_
        try simp only [Act.put, nz1, nz2, nz3]
        refine wpAnyH_ready (rs := [8]) (by kernel_rfl) (by simp) ?_
        refine (AllReadyH.cons (o := ⟨none, _, _, _, _, _⟩) rfl (fun K hK => ?_) AllReadyH.nil)
        (try rw [if_pos (by rfl)])
        refine oper_store_at 24 _ _ rfl h.Db (i * 32) (32 * H) _ (idL x.id) (fun u hu => by obtain ⟨c, _, rfl⟩ := List.mem_map.1 hu; rfl) rfl rfl 24 hM.done (by rw [idL_length HXO.out.id]; exact id_info) (by rw [idL_length HXO.out.id]; have := HI.out; omega) ?_
        intro W9 hw9
        have hbk : Blk W9 h.Db 24 (arr (32 * H) (dsF (((lg.take j).foldl (takeD1 i) h.ds).set i x.id))) := by rw [hw9]; exact (hM.done.setRow _).same (ds_put hM.dok hM.dlen HI.out HXO.out.id)
        have hgk : World.grownBy W8.drew W9 (some h.Db) := by rw [hw9]; exact grown_row _ _ _
        have hS9 := hS8.grown hgk (fun e => blk_ne hS8 hM.done (by decide) (Option.some.inj e))
        have hO9 := hO.keepB fun g cs hb => hgk.block g hb.lt fun e => blk_ne hb hM.done (by decide) (Option.some.inj e)
        have hM9 := hM.ends HXO.out.id hbk hgk
        have hlowD : b ≤ h.Db := hM.low.2.2
        have hszB : b ≤ W8.drew.heap.size := Nat.le_trans HW.out hB.size
        have hB9 : Below b W W9 := hB.trans ⟨hgk.os, hgk.tape, hgk.output, hgk.size, fun g hg => hgk.block g (Nat.lt_of_lt_of_le hg hszB) fun e => by have e2 : g = h.Db := Option.some.inj e; omega⟩
        have hT9 := hT.ends hgk
        clear hw9 hbk hgk hM hS8 hO hB hlowD hszB hT
        try dsimp only
        refine hK.out _ _ (⟨hM9.cell (j := 3) (by omega), act_idH hS9 HXO.out⟩) (fun hHeld => ?_)
        clear hK K
        try simp only [Act.put]
        refine wpAnyH_done (by kernel_rfl) ?_ _
        have ck : W9.cell? ⟨wr.heap.size, 0, none⟩ = some (.int .i64 4) := by rw [hS9.cell, ← HX4.out]; rfl
        go_wp2_with fail
        go_roundw
        case rel =>
          refine ⟨j + 1, vm, hjl, by go_num, ?_, hB9, hT9, hO9⟩
          rw [take_foldG (takeM1 H i) HXK.out, take_foldG (takeD1 i) HXK.out]
          have e1 : takeM1 H i ((lg.take j).foldl (takeM1 H i) h.ms) x = (lg.take j).foldl (takeM1 H i) h.ms := if_neg (by rw [HX4.out]; omega)
          have e2 : takeD1 i ((lg.take j).foldl (takeD1 i) h.ds) x = ((lg.take j).foldl (takeD1 i) h.ds).set i x.id := if_pos HX4.out
          rw [e1, e2]
          exact hM9
        case measure => simp [intOf]; omega
      · have h4b : (x.kind == 4) = false := by rw [beq_eq_false_iff_ne]; exact h4
        have HX4 := Lib.hid h4
        clear h4
        by_cases h12 : x.kind = 1 ∨ x.kind = 2
        · have HX12 := Lib.hid h12
          have HM8 := Lib.hid hM
          have HB8 := Lib.hid hB
          have HO8 := Lib.hid hO
          have HT8 := Lib.hid hT
          have HS8 := Lib.hid hS8
          have ca : W8.cell? ⟨h.Hb, 0, none⟩ = some (.slice (some ⟨h.Ab, 0, none⟩) H h.cap) := hM.cell (j := 0) (by omega)
          clear hM hB hT hO hS8
          rcases h12 with h1 | h1
          · rw [h1] at ck
            clear h1
            go_upto_region 6 with fail
            go_upto_region 7 with fail
            obtain ⟨wp, hwp⟩ : ∃ z, z = wr := ⟨_, rfl⟩
            subst hwp
            clear ck ca
            go_loopw [39] (fun s39 wr => ∃ (k : Nat) (vm1 : Value), k ≤ H ∧ s39 = .int .i64 (k : Int) ∧ HallM b wr H { h with vm := vm1, ms := sendM H i x (lg.take j |>.foldl (takeM1 H i) h.ms) k, ds := (lg.take j).foldl (takeD1 i) h.ds } ∧ Below b W wr ∧ Oth W wr h vm1 ∧ OwnA bq wr (.slice (some adx) nl cq) lg ∧ Blk wr wp.heap.size 71 (actA x)) (fun s39 _ => H - (intOf s39).toNat)
            case atStart => exact ⟨0, vm, Nat.zero_le _, rfl, HM8.out, HB8.out, HT8.out, HO8.out, HS8.out⟩
            case round =>
              obtain ⟨k, vm1, hk, rfl, hMy, hBy, hTy, hOy, hxb⟩ := hrel
              by_cases hkH : k < H
              · have hki : (k : Int) < (H : Int) := by omega
                have hk0 : (0 : Int) ≤ (k : Int) := by omega
                obtain ⟨A1, c1, hv1⟩ := row_slice hMy.own
                obtain ⟨mn, hmn⟩ : ∃ mn, (sendM H i x (lg.take j |>.foldl (takeM1 H i) h.ms) k).length = mn := ⟨_, rfl⟩
                have hv2 : vm1 = .slice A1 mn c1 := hv1.trans (by rw [← hmn])
                subst hv2
                have HML := Lib.hid hmn
                have HMY := Lib.hid hMy
                have HBY := Lib.hid hBy
                have HOY := Lib.hid hOy
                have HTY := Lib.hid hTy
                have HBX := Lib.hid hxb
                have HWB : Hid (b ≤ wr.heap.size) := Lib.hid (Nat.le_trans HW.out hBy.size)
                have HMO : Hid (MailOk ⟨(i : Int), (k : Int), x⟩) := Lib.hid ⟨wfi_small (n := (i : Int)) (by have := HI.out; have := HH7.out; omega) (by have := HI.out; have := HH7.out; omega), wfi_small (n := (k : Int)) (by have := HH7.out; omega) (by have := HH7.out; omega), HXO.out⟩
                have cm : wr.cell? ⟨h.Hb, 2, none⟩ = some (.slice A1 mn c1) := hMy.cell (j := 2) (by omega)
                clear hv1 hmn hMy hBy hTy hOy hxb
                by_cases hki2 : k = i
                · have hkib : ((k : Int) != (i : Int)) = false := by rw [hki2]; simp
                  have hsm : sendM H i x (lg.take j |>.foldl (takeM1 H i) h.ms) (k + 1) = sendM H i x (lg.take j |>.foldl (takeM1 H i) h.ms) k := by rw [sendM_succ, if_neg (fun e => e.1 hki2)]
                  have HSM := Lib.hid hsm
                  clear hsm
                  clear hki2
                  go_wp2_with fail
                  go_roundw
                  case rel => exact ⟨k + 1, _, by omega, by go_num, by rw [HSM.out]; exact HMY.out, HBY.out, HTY.out, HOY.out, HBX.out⟩
                  case measure => simp [intOf]; omega
                · have hkib : ((k : Int) != (i : Int)) = true := by rw [bne_iff_ne]; omega
                  have hkin : ¬ (k : Int) = (i : Int) := by omega
                  have HKI := Lib.hid hki2
                  clear hki2
                  by_cases hfw : mn < 2000
                  · have hfi : (mn : Int) < 2000 := by omega
                    have HFW : Hid ((sendM H i x (lg.take j |>.foldl (takeM1 H i) h.ms) k).length < 2000) := Lib.hid (by rw [HML.out]; exact hfw)
                    clear hfw
                    go_upto_region 10 with fail
                    clear cm
                    have hbX : Below wr.heap.size wr wr.drew := (Below.refl _ wr).drew
                    have HC3 : Hid (∀ W', Below wr.heap.size wr W' → (Instr.loadAt 80 (.pointer (some ⟨h.Hb, 2, none⟩))).run Try.prog W' = .ok (.slice A1 mn c1) W') := Lib.hid fun W' hb => loadVar_one Try.underlying80 rfl ((HMY.out.below hb).cell (j := 2) (by omega))
                    have HLD : Hid (∀ W', Below wr.heap.size wr W' → (Instr.loadAt 71 (.pointer (some ⟨wp.heap.size, 0, none⟩))).run Try.prog W' = .ok (.agg (actA x)) W') := Lib.hid fun W' hb => load_act (HBX.out.below hb HBX.out.lt) HXO.out
                    refine wp_region_held_drew (S := fun W' => (Instr.loadAt 71 (.pointer (some ⟨wp.heap.size, 0, none⟩))).run Try.prog W' = .ok (.agg (actA x)) W') (by kernel_rfl) ?_ (fun hHeld => ?_)
                    · exact HLD.out _ hbX
                    refine tkH (v := ?_) 0 ⟨some 53, _, _, _, _, _⟩ rfl (Or.inl ⟨by rfl, ?_⟩) ?_
                    rotate_left
                    · intro w hSw; (try dsimp only at hSw); go_simp; try (with_reducible rfl)
                    try simp only [Act.put, nz1, nz2, nz3]
                    refine tkH (v := ?_) 1 ⟨some 54, _, _, _, _, _⟩ rfl (Or.inl ⟨by rfl, ?_⟩) ?_
                    rotate_left
                    · intro w hSw; (try dsimp only at hSw); go_simp; try (with_reducible rfl)
                    try simp only [Act.put, nz1, nz2, nz3]
                    refine tkH (v := ?_) 2 ⟨some 55, _, _, _, _, _⟩ rfl (Or.inl ⟨by rfl, ?_⟩) ?_
                    rotate_left
                    · intro w hSw; (try dsimp only at hSw); go_simp; try (with_reducible rfl)
                    try simp only [Act.put, nz1, nz2, nz3]
                    refine tkH (v := ?_) 3 ⟨some 56, _, _, _, _, _⟩ rfl (Or.inl ⟨by rfl, ?_⟩) ?_
                    rotate_left
                    · intro w hSw; (try dsimp only at hSw); go_simp; try (with_reducible rfl)
                    try simp only [Act.put, nz1, nz2, nz3]
                    refine tkH (v := ?_) 5 ⟨some 58, _, _, _, _, _⟩ rfl (Or.inl ⟨by rfl, ?_⟩) ?_
                    rotate_left
                    · intro w hSw; (try dsimp only at hSw); go_simp; try (with_reducible rfl)
                    try simp only [Act.put, nz1, nz2, nz3]
                    refine tkH (v := ?_) 6 ⟨some 59, _, _, _, _, _⟩ rfl (Or.inl ⟨by rfl, ?_⟩) ?_
                    rotate_left
                    · intro w hSw; (try dsimp only at hSw); go_simp; try (with_reducible rfl)
                    try simp only [Act.put, nz1, nz2, nz3]
                    refine tkH (v := (.agg (actA x))) 7 ⟨some 60, _, _, _, _, _⟩ rfl (yields_run (by rfl) 71 _ rfl (.pointer (some ⟨wp.heap.size, 0, none⟩)) _ rfl (fun W' hS => hS)) ?_
                    try simp only [Act.put, nz1, nz2, nz3]
                    refine tkH (v := (.agg (mailA ⟨(i : Int), (k : Int), x⟩))) 8 ⟨some 61, _, _, _, _, _⟩ rfl (yields_build (by rfl) 85 _ rfl [(0, .int .i64 (i : Int)), (1, .int .i64 (k : Int)), (2, .agg (actA x))] rfl _ (mail_builtA _ _ x HXO.out)) ?_
                    try simp only [Act.put, nz1, nz2, nz3]
                    refine wpAnyH_ready (rs := [4, 9]) (by kernel_rfl) (by simp) ?_
                    refine (AllReadyH.cons (o := ⟨some 57, _, _, _, _, _⟩) rfl (fun K hK => ?_) (AllReadyH.cons (o := ⟨some 62, _, _, _, _, _⟩) rfl (fun K hK => ?_) AllReadyH.nil))
                    · (try rw [if_pos (by rfl)])
                      refine oper_load 80 _ rfl _ _ rfl (HC3.out _ hbX) ?_
                      try simp only [Act.put, nz1, nz2, nz3]
                      try dsimp only
                      refine hK.out _ _ ((by first | exact HL6.out | exact HL5.out | exact HLD.out _ hbX)) (fun hHeld => ?_)
                      clear hK K
                      try simp only [Act.put, nz1, nz2, nz3]
                      refine wpAnyH_ready (rs := [9]) (by kernel_rfl) (by simp) ?_
                      refine (AllReadyH.cons (o := ⟨some 62, _, _, _, _, _⟩) rfl (fun K hK => ?_) AllReadyH.nil)
                      (try rw [if_pos (by rfl)])
                      refine oper_build_mail _ rfl ⟨(i : Int), (k : Int), x⟩ HMO.out rfl ?_
                      have HRD9 := Lib.hid (rdMl_new wr.drew ⟨(i : Int), (k : Int), x⟩ HMO.out)
                      have hbX := (Below.refl _ wr).drew.alloc (Nat.le_refl _) (.cells (mailA ⟨(i : Int), (k : Int), x⟩) 85)
                      have HOW9 := Lib.hid (rowV_kept HMY.out.own hbX)
                      have HB9 : Hid (Below wr.heap.size wr (wr.drew.alloc (.cells (mailA ⟨(i : Int), (k : Int), x⟩) 85))) := Lib.hid hbX
                      try dsimp only
                      refine hK.out _ _ ((by first | exact HL6.out | exact HL5.out | exact HLD.out _ hbX)) (fun hHeld => ?_)
                      clear hK K
                      try simp only [Act.put, nz1, nz2, nz3]
                      refine wpAnyH_ready (rs := [10]) (by kernel_rfl) (by simp) ?_
                      refine (AllReadyH.cons (o := ⟨some 63, _, _, _, _, _⟩) rfl (fun K hK => ?_) AllReadyH.nil)
                      (try rw [if_pos (by rfl)])
                      obtain ⟨v5, W5, hrun, how5, hg5, hor5⟩ := app_mails (Nat.le_trans HWB.out HB9.out.size) HOW9.out HRD9.out (by have := HMY.out.few; have := HML.out; first | omega | (simp only [List.length_singleton]; omega))
                      refine oper_append _ _ _ _ rfl _ _ rfl rfl v5 W5 hrun ?_
                      have HOW5 := Lib.hid how5
                      have HG5 := Lib.hid (grown_trans (grown_of_below HB9.out _) hg5)
                      have HOR5 : Hid (v5.ownBlock = Value.ownBlock (.slice A1 mn c1) ∨ ∃ g, v5.ownBlock = some g ∧ wr.heap.size ≤ g) := Lib.hid (hor5.imp (fun e => e) fun e => ⟨_, e, HB9.out.size⟩)
                      have HBK5 : Hid (Blk W5 h.Hb 82 (arr 4 (haF (h.va H) (.slice A1 mn c1) (h.vd H) H))) := Lib.hid (HMY.out.blk.grown HG5.out fun e => by
                        obtain ⟨ds, h3, _⟩ := row_at HMY.out.own e.symm
                        exact blk_ne HMY.out.blk h3 (by decide) rfl)
                      have HL5 : Hid ((Instr.loadAt 71 (.pointer (some ⟨wp.heap.size, 0, none⟩))).run Try.prog W5 = .ok (.agg (actA x)) W5) := Lib.hid (load_act (HBX.out.grown HG5.out fun e => by
                        obtain ⟨ds, h3, _⟩ := row_at HMY.out.own e.symm
                        exact blk_ne HBX.out h3 (by decide) rfl) HXO.out)
                      clear hrun how5 hg5 hor5 hbX
                      try dsimp only
                      refine hK.out _ _ ((by first | exact HL6.out | exact HL5.out | exact HLD.out _ hbX)) (fun hHeld => ?_)
                      clear hK K
                      try simp only [Act.put, nz1, nz2, nz3]
                      refine tkH (v := ?_) 11 ⟨some 64, _, _, _, _, _⟩ rfl (Or.inl ⟨by rfl, ?_⟩) ?_
                      rotate_left
                      · intro w hSw; (try dsimp only at hSw); go_simp; try (with_reducible rfl)
                      try simp only [Act.put, nz1, nz2, nz3]
                      refine tkH (v := ?_) 12 ⟨some 65, _, _, _, _, _⟩ rfl (Or.inl ⟨by rfl, ?_⟩) ?_
                      rotate_left
                      · intro w hSw; (try dsimp only at hSw); go_simp; try (with_reducible rfl)
                      try simp only [Act.put, nz1, nz2, nz3]
                      refine wpAnyH_ready (rs := [13]) (by kernel_rfl) (by simp) ?_
                      refine (AllReadyH.cons (o := ⟨none, _, _, _, _, _⟩) rfl (fun K hK => ?_) AllReadyH.nil)
                      (try rw [if_pos (by rfl)])
                      refine oper_store_val 80 _ _ rfl h.Hb 2 4 _ v5 (own_cells HOW5.out).1 (own_cells HOW5.out).2 rfl rfl 82 HBK5.out (by kernel_rfl) (by omega) ?_
                      intro W6 hw6
                      have HBK6 : Hid (Blk W6 h.Hb 82 (arr 4 (haF (h.va H) v5 (h.vd H) H))) := Lib.hid (by rw [hw6]; exact (HBK5.out.setRow _).same (ha_put _ _ _ _ _))
                      have HG6 : Hid (W5.grownBy W6 (some h.Hb)) := Lib.hid (by rw [hw6]; exact grown_row _ _ _)
                      have HX6 := Lib.hid (HBX.out.eqAt (HMY.out.mailB HG5.out HG6.out HBX.out (by decide) (by decide)))
                      have HL6 : Hid ((Instr.loadAt 71 (.pointer (some ⟨wp.heap.size, 0, none⟩))).run Try.prog W6 = .ok (.agg (actA x)) W6) := Lib.hid (load_act HX6.out HXO.out)
                      clear hw6
                      try dsimp only
                      refine hK.out _ _ ((by first | exact HL6.out | exact HL5.out | exact HLD.out _ hbX)) (fun hHeld => ?_)
                      clear hK K
                      try simp only [Act.put]
                      refine wpAnyH_done (by kernel_rfl) ?_ _
                      have hfin := HMY.out.mail HMO.out HFW.out HG5.out HOW5.out HOR5.out HBK6.out HG6.out HWB.out
                      go_wp2_with fail
                      go_roundw
                      case rel => exact ⟨k + 1, v5, by omega, by go_num, by rw [sendM_succ, if_pos ⟨HKI.out, HFW.out⟩]; exact hfin.1, HBY.out.trans hfin.2, HTY.out.mail HG5.out HG6.out HOR5.out, HOY.out.keepB fun g cs hb => HMY.out.mailB HG5.out HG6.out hb (by decide) (by decide), HX6.out⟩
                      case measure => simp [intOf]; omega
                    · (try rw [if_pos (by rfl)])
                      refine oper_build_mail _ rfl ⟨(i : Int), (k : Int), x⟩ HMO.out rfl ?_
                      have HRD9 := Lib.hid (rdMl_new wr.drew ⟨(i : Int), (k : Int), x⟩ HMO.out)
                      have hbX := (Below.refl _ wr).drew.alloc (Nat.le_refl _) (.cells (mailA ⟨(i : Int), (k : Int), x⟩) 85)
                      have HOW9 := Lib.hid (rowV_kept HMY.out.own hbX)
                      have HB9 : Hid (Below wr.heap.size wr (wr.drew.alloc (.cells (mailA ⟨(i : Int), (k : Int), x⟩) 85))) := Lib.hid hbX
                      try dsimp only
                      refine hK.out _ _ ((by first | exact HL6.out | exact HL5.out | exact HLD.out _ hbX)) (fun hHeld => ?_)
                      clear hK K
                      try simp only [Act.put, nz1, nz2, nz3]
                      refine wpAnyH_ready (rs := [4]) (by kernel_rfl) (by simp) ?_
                      refine (AllReadyH.cons (o := ⟨some 57, _, _, _, _, _⟩) rfl (fun K hK => ?_) AllReadyH.nil)
                      (try rw [if_pos (by rfl)])
                      refine oper_load 80 _ rfl _ _ rfl (HC3.out _ hbX) ?_
                      try simp only [Act.put, nz1, nz2, nz3]
                      try dsimp only
                      refine hK.out _ _ ((by first | exact HL6.out | exact HL5.out | exact HLD.out _ hbX)) (fun hHeld => ?_)
                      clear hK K
                      try simp only [Act.put, nz1, nz2, nz3]
                      refine wpAnyH_ready (rs := [10]) (by kernel_rfl) (by simp) ?_
                      refine (AllReadyH.cons (o := ⟨some 63, _, _, _, _, _⟩) rfl (fun K hK => ?_) AllReadyH.nil)
                      (try rw [if_pos (by rfl)])
                      obtain ⟨v5, W5, hrun, how5, hg5, hor5⟩ := app_mails (Nat.le_trans HWB.out HB9.out.size) HOW9.out HRD9.out (by have := HMY.out.few; have := HML.out; first | omega | (simp only [List.length_singleton]; omega))
                      refine oper_append _ _ _ _ rfl _ _ rfl rfl v5 W5 hrun ?_
                      have HOW5 := Lib.hid how5
                      have HG5 := Lib.hid (grown_trans (grown_of_below HB9.out _) hg5)
                      have HOR5 : Hid (v5.ownBlock = Value.ownBlock (.slice A1 mn c1) ∨ ∃ g, v5.ownBlock = some g ∧ wr.heap.size ≤ g) := Lib.hid (hor5.imp (fun e => e) fun e => ⟨_, e, HB9.out.size⟩)
                      have HBK5 : Hid (Blk W5 h.Hb 82 (arr 4 (haF (h.va H) (.slice A1 mn c1) (h.vd H) H))) := Lib.hid (HMY.out.blk.grown HG5.out fun e => by
                        obtain ⟨ds, h3, _⟩ := row_at HMY.out.own e.symm
                        exact blk_ne HMY.out.blk h3 (by decide) rfl)
                      have HL5 : Hid ((Instr.loadAt 71 (.pointer (some ⟨wp.heap.size, 0, none⟩))).run Try.prog W5 = .ok (.agg (actA x)) W5) := Lib.hid (load_act (HBX.out.grown HG5.out fun e => by
                        obtain ⟨ds, h3, _⟩ := row_at HMY.out.own e.symm
                        exact blk_ne HBX.out h3 (by decide) rfl) HXO.out)
                      clear hrun how5 hg5 hor5 hbX
                      try dsimp only
                      refine hK.out _ _ ((by first | exact HL6.out | exact HL5.out | exact HLD.out _ hbX)) (fun hHeld => ?_)
                      clear hK K
                      try simp only [Act.put, nz1, nz2, nz3]
                      refine tkH (v := ?_) 11 ⟨some 64, _, _, _, _, _⟩ rfl (Or.inl ⟨by rfl, ?_⟩) ?_
                      rotate_left
                      · intro w hSw; (try dsimp only at hSw); go_simp; try (with_reducible rfl)
                      try simp only [Act.put, nz1, nz2, nz3]
                      refine tkH (v := ?_) 12 ⟨some 65, _, _, _, _, _⟩ rfl (Or.inl ⟨by rfl, ?_⟩) ?_
                      rotate_left
                      · intro w hSw; (try dsimp only at hSw); go_simp; try (with_reducible rfl)
                      try simp only [Act.put, nz1, nz2, nz3]
                      refine wpAnyH_ready (rs := [13]) (by kernel_rfl) (by simp) ?_
                      refine (AllReadyH.cons (o := ⟨none, _, _, _, _, _⟩) rfl (fun K hK => ?_) AllReadyH.nil)
                      (try rw [if_pos (by rfl)])
                      refine oper_store_val 80 _ _ rfl h.Hb 2 4 _ v5 (own_cells HOW5.out).1 (own_cells HOW5.out).2 rfl rfl 82 HBK5.out (by kernel_rfl) (by omega) ?_
                      intro W6 hw6
                      have HBK6 : Hid (Blk W6 h.Hb 82 (arr 4 (haF (h.va H) v5 (h.vd H) H))) := Lib.hid (by rw [hw6]; exact (HBK5.out.setRow _).same (ha_put _ _ _ _ _))
                      have HG6 : Hid (W5.grownBy W6 (some h.Hb)) := Lib.hid (by rw [hw6]; exact grown_row _ _ _)
                      have HX6 := Lib.hid (HBX.out.eqAt (HMY.out.mailB HG5.out HG6.out HBX.out (by decide) (by decide)))
                      have HL6 : Hid ((Instr.loadAt 71 (.pointer (some ⟨wp.heap.size, 0, none⟩))).run Try.prog W6 = .ok (.agg (actA x)) W6) := Lib.hid (load_act HX6.out HXO.out)
                      clear hw6
                      try dsimp only
                      refine hK.out _ _ ((by first | exact HL6.out | exact HL5.out | exact HLD.out _ hbX)) (fun hHeld => ?_)
                      clear hK K
                      try simp only [Act.put]
                      refine wpAnyH_done (by kernel_rfl) ?_ _
                      have hfin := HMY.out.mail HMO.out HFW.out HG5.out HOW5.out HOR5.out HBK6.out HG6.out HWB.out
                      go_wp2_with fail
                      go_roundw
                      case rel => exact ⟨k + 1, v5, by omega, by go_num, by rw [sendM_succ, if_pos ⟨HKI.out, HFW.out⟩]; exact hfin.1, HBY.out.trans hfin.2, HTY.out.mail HG5.out HG6.out HOR5.out, HOY.out.keepB fun g cs hb => HMY.out.mailB HG5.out HG6.out hb (by decide) (by decide), HX6.out⟩
                      case measure => simp [intOf]; omega
                  · have hfi : ¬ (mn : Int) < 2000 := by omega
                    have hsm : sendM H i x (lg.take j |>.foldl (takeM1 H i) h.ms) (k + 1) = sendM H i x (lg.take j |>.foldl (takeM1 H i) h.ms) k := by rw [sendM_succ, if_neg (fun e => hfw (HML.out ▸ e.2))]
                    have HSM := Lib.hid hsm
                    clear hsm hfw
                    go_wp2_with fail
                    go_roundw
                    case rel => exact ⟨k + 1, _, by omega, by go_num, by rw [HSM.out]; exact HMY.out, HBY.out, HTY.out, HOY.out, HBX.out⟩
                    case measure => simp [intOf]; omega
              · obtain rfl : k = H := by omega
                have hki : ¬ (k : Int) < (k : Int) := by omega
                have HMY := Lib.hid hMy
                have HBY := Lib.hid hBy
                have HOY := Lib.hid hOy
                have HTY := Lib.hid hTy
                clear hMy hBy hTy hOy hxb
                go_wp2_with fail
                go_roundw
                case rel =>
                  refine ⟨j + 1, vm1, hjl, by go_num, ?_, HBY.out, HTY.out, HOY.out⟩
                  rw [take_foldG (takeM1 k i) HXK.out, take_foldG (takeD1 i) HXK.out]
                  have e1 : takeM1 k i ((lg.take j).foldl (takeM1 k i) h.ms) x = sendM k i x ((lg.take j).foldl (takeM1 k i) h.ms) k := if_pos HX12.out
                  have e2 : takeD1 i ((lg.take j).foldl (takeD1 i) h.ds) x = (lg.take j).foldl (takeD1 i) h.ds := if_neg HX4.out
                  rw [e1, e2]
                  exact HMY.out
                case measure => simp [intOf]; omega
          · rw [h1] at ck
            clear h1
            go_upto_region 6 with fail
            go_upto_region 7 with fail
            obtain ⟨wp, hwp⟩ : ∃ z, z = wr := ⟨_, rfl⟩
            subst hwp
            clear ck ca
            go_loopw [39] (fun s39 wr => ∃ (k : Nat) (vm1 : Value), k ≤ H ∧ s39 = .int .i64 (k : Int) ∧ HallM b wr H { h with vm := vm1, ms := sendM H i x (lg.take j |>.foldl (takeM1 H i) h.ms) k, ds := (lg.take j).foldl (takeD1 i) h.ds } ∧ Below b W wr ∧ Oth W wr h vm1 ∧ OwnA bq wr (.slice (some adx) nl cq) lg ∧ Blk wr wp.heap.size 71 (actA x)) (fun s39 _ => H - (intOf s39).toNat)
            case atStart => exact ⟨0, vm, Nat.zero_le _, rfl, HM8.out, HB8.out, HT8.out, HO8.out, HS8.out⟩
            case round =>
              obtain ⟨k, vm1, hk, rfl, hMy, hBy, hTy, hOy, hxb⟩ := hrel
              by_cases hkH : k < H
              · have hki : (k : Int) < (H : Int) := by omega
                have hk0 : (0 : Int) ≤ (k : Int) := by omega
                obtain ⟨A1, c1, hv1⟩ := row_slice hMy.own
                obtain ⟨mn, hmn⟩ : ∃ mn, (sendM H i x (lg.take j |>.foldl (takeM1 H i) h.ms) k).length = mn := ⟨_, rfl⟩
                have hv2 : vm1 = .slice A1 mn c1 := hv1.trans (by rw [← hmn])
                subst hv2
                have HML := Lib.hid hmn
                have HMY := Lib.hid hMy
                have HBY := Lib.hid hBy
                have HOY := Lib.hid hOy
                have HTY := Lib.hid hTy
                have HBX := Lib.hid hxb
                have HWB : Hid (b ≤ wr.heap.size) := Lib.hid (Nat.le_trans HW.out hBy.size)
                have HMO : Hid (MailOk ⟨(i : Int), (k : Int), x⟩) := Lib.hid ⟨wfi_small (n := (i : Int)) (by have := HI.out; have := HH7.out; omega) (by have := HI.out; have := HH7.out; omega), wfi_small (n := (k : Int)) (by have := HH7.out; omega) (by have := HH7.out; omega), HXO.out⟩
                have cm : wr.cell? ⟨h.Hb, 2, none⟩ = some (.slice A1 mn c1) := hMy.cell (j := 2) (by omega)
                clear hv1 hmn hMy hBy hTy hOy hxb
                by_cases hki2 : k = i
                · have hkib : ((k : Int) != (i : Int)) = false := by rw [hki2]; simp
                  have hsm : sendM H i x (lg.take j |>.foldl (takeM1 H i) h.ms) (k + 1) = sendM H i x (lg.take j |>.foldl (takeM1 H i) h.ms) k := by rw [sendM_succ, if_neg (fun e => e.1 hki2)]
                  have HSM := Lib.hid hsm
                  clear hsm
                  clear hki2
                  go_wp2_with fail
                  go_roundw
                  case rel => exact ⟨k + 1, _, by omega, by go_num, by rw [HSM.out]; exact HMY.out, HBY.out, HTY.out, HOY.out, HBX.out⟩
                  case measure => simp [intOf]; omega
                · have hkib : ((k : Int) != (i : Int)) = true := by rw [bne_iff_ne]; omega
                  have hkin : ¬ (k : Int) = (i : Int) := by omega
                  have HKI := Lib.hid hki2
                  clear hki2
                  by_cases hfw : mn < 2000
                  · have hfi : (mn : Int) < 2000 := by omega
                    have HFW : Hid ((sendM H i x (lg.take j |>.foldl (takeM1 H i) h.ms) k).length < 2000) := Lib.hid (by rw [HML.out]; exact hfw)
                    clear hfw
                    go_upto_region 10 with fail
                    clear cm
                    have hbX : Below wr.heap.size wr wr.drew := (Below.refl _ wr).drew
                    have HC3 : Hid (∀ W', Below wr.heap.size wr W' → (Instr.loadAt 80 (.pointer (some ⟨h.Hb, 2, none⟩))).run Try.prog W' = .ok (.slice A1 mn c1) W') := Lib.hid fun W' hb => loadVar_one Try.underlying80 rfl ((HMY.out.below hb).cell (j := 2) (by omega))
                    have HLD : Hid (∀ W', Below wr.heap.size wr W' → (Instr.loadAt 71 (.pointer (some ⟨wp.heap.size, 0, none⟩))).run Try.prog W' = .ok (.agg (actA x)) W') := Lib.hid fun W' hb => load_act (HBX.out.below hb HBX.out.lt) HXO.out
                    refine wp_region_held_drew (S := fun W' => (Instr.loadAt 71 (.pointer (some ⟨wp.heap.size, 0, none⟩))).run Try.prog W' = .ok (.agg (actA x)) W') (by kernel_rfl) ?_ (fun hHeld => ?_)
                    · exact HLD.out _ hbX
                    refine tkH (v := ?_) 0 ⟨some 53, _, _, _, _, _⟩ rfl (Or.inl ⟨by rfl, ?_⟩) ?_
                    rotate_left
                    · intro w hSw; (try dsimp only at hSw); go_simp; try (with_reducible rfl)
                    try simp only [Act.put, nz1, nz2, nz3]
                    refine tkH (v := ?_) 1 ⟨some 54, _, _, _, _, _⟩ rfl (Or.inl ⟨by rfl, ?_⟩) ?_
                    rotate_left
                    · intro w hSw; (try dsimp only at hSw); go_simp; try (with_reducible rfl)
                    try simp only [Act.put, nz1, nz2, nz3]
                    refine tkH (v := ?_) 2 ⟨some 55, _, _, _, _, _⟩ rfl (Or.inl ⟨by rfl, ?_⟩) ?_
                    rotate_left
                    · intro w hSw; (try dsimp only at hSw); go_simp; try (with_reducible rfl)
                    try simp only [Act.put, nz1, nz2, nz3]
                    refine tkH (v := ?_) 3 ⟨some 56, _, _, _, _, _⟩ rfl (Or.inl ⟨by rfl, ?_⟩) ?_
                    rotate_left
                    · intro w hSw; (try dsimp only at hSw); go_simp; try (with_reducible rfl)
                    try simp only [Act.put, nz1, nz2, nz3]
                    refine tkH (v := ?_) 5 ⟨some 58, _, _, _, _, _⟩ rfl (Or.inl ⟨by rfl, ?_⟩) ?_
                    rotate_left
                    · intro w hSw; (try dsimp only at hSw); go_simp; try (with_reducible rfl)
                    try simp only [Act.put, nz1, nz2, nz3]
                    refine tkH (v := ?_) 6 ⟨some 59, _, _, _, _, _⟩ rfl (Or.inl ⟨by rfl, ?_⟩) ?_
                    rotate_left
                    · intro w hSw; (try dsimp only at hSw); go_simp; try (with_reducible rfl)
                    try simp only [Act.put, nz1, nz2, nz3]
                    refine tkH (v := (.agg (actA x))) 7 ⟨some 60, _, _, _, _, _⟩ rfl (yields_run (by rfl) 71 _ rfl (.pointer (some ⟨wp.heap.size, 0, none⟩)) _ rfl (fun W' hS => hS)) ?_
                    try simp only [Act.put, nz1, nz2, nz3]
                    refine tkH (v := (.agg (mailA ⟨(i : Int), (k : Int), x⟩))) 8 ⟨some 61, _, _, _, _, _⟩ rfl (yields_build (by rfl) 85 _ rfl [(0, .int .i64 (i : Int)), (1, .int .i64 (k : Int)), (2, .agg (actA x))] rfl _ (mail_builtA _ _ x HXO.out)) ?_
                    try simp only [Act.put, nz1, nz2, nz3]
                    refine wpAnyH_ready (rs := [4, 9]) (by kernel_rfl) (by simp) ?_
                    refine (AllReadyH.cons (o := ⟨some 57, _, _, _, _, _⟩) rfl (fun K hK => ?_) (AllReadyH.cons (o := ⟨some 62, _, _, _, _, _⟩) rfl (fun K hK => ?_) AllReadyH.nil))
                    · (try rw [if_pos (by rfl)])
                      refine oper_load 80 _ rfl _ _ rfl (HC3.out _ hbX) ?_
                      try simp only [Act.put, nz1, nz2, nz3]
                      try dsimp only
                      refine hK.out _ _ ((by first | exact HL6.out | exact HL5.out | exact HLD.out _ hbX)) (fun hHeld => ?_)
                      clear hK K
                      try simp only [Act.put, nz1, nz2, nz3]
                      refine wpAnyH_ready (rs := [9]) (by kernel_rfl) (by simp) ?_
                      refine (AllReadyH.cons (o := ⟨some 62, _, _, _, _, _⟩) rfl (fun K hK => ?_) AllReadyH.nil)
                      (try rw [if_pos (by rfl)])
                      refine oper_build_mail _ rfl ⟨(i : Int), (k : Int), x⟩ HMO.out rfl ?_
                      have HRD9 := Lib.hid (rdMl_new wr.drew ⟨(i : Int), (k : Int), x⟩ HMO.out)
                      have hbX := (Below.refl _ wr).drew.alloc (Nat.le_refl _) (.cells (mailA ⟨(i : Int), (k : Int), x⟩) 85)
                      have HOW9 := Lib.hid (rowV_kept HMY.out.own hbX)
                      have HB9 : Hid (Below wr.heap.size wr (wr.drew.alloc (.cells (mailA ⟨(i : Int), (k : Int), x⟩) 85))) := Lib.hid hbX
                      try dsimp only
                      refine hK.out _ _ ((by first | exact HL6.out | exact HL5.out | exact HLD.out _ hbX)) (fun hHeld => ?_)
                      clear hK K
                      try simp only [Act.put, nz1, nz2, nz3]
                      refine wpAnyH_ready (rs := [10]) (by kernel_rfl) (by simp) ?_
                      refine (AllReadyH.cons (o := ⟨some 63, _, _, _, _, _⟩) rfl (fun K hK => ?_) AllReadyH.nil)
                      (try rw [if_pos (by rfl)])
                      obtain ⟨v5, W5, hrun, how5, hg5, hor5⟩ := app_mails (Nat.le_trans HWB.out HB9.out.size) HOW9.out HRD9.out (by have := HMY.out.few; have := HML.out; first | omega | (simp only [List.length_singleton]; omega))
                      refine oper_append _ _ _ _ rfl _ _ rfl rfl v5 W5 hrun ?_
                      have HOW5 := Lib.hid how5
                      have HG5 := Lib.hid (grown_trans (grown_of_below HB9.out _) hg5)
                      have HOR5 : Hid (v5.ownBlock = Value.ownBlock (.slice A1 mn c1) ∨ ∃ g, v5.ownBlock = some g ∧ wr.heap.size ≤ g) := Lib.hid (hor5.imp (fun e => e) fun e => ⟨_, e, HB9.out.size⟩)
                      have HBK5 : Hid (Blk W5 h.Hb 82 (arr 4 (haF (h.va H) (.slice A1 mn c1) (h.vd H) H))) := Lib.hid (HMY.out.blk.grown HG5.out fun e => by
                        obtain ⟨ds, h3, _⟩ := row_at HMY.out.own e.symm
                        exact blk_ne HMY.out.blk h3 (by decide) rfl)
                      have HL5 : Hid ((Instr.loadAt 71 (.pointer (some ⟨wp.heap.size, 0, none⟩))).run Try.prog W5 = .ok (.agg (actA x)) W5) := Lib.hid (load_act (HBX.out.grown HG5.out fun e => by
                        obtain ⟨ds, h3, _⟩ := row_at HMY.out.own e.symm
                        exact blk_ne HBX.out h3 (by decide) rfl) HXO.out)
                      clear hrun how5 hg5 hor5 hbX
                      try dsimp only
                      refine hK.out _ _ ((by first | exact HL6.out | exact HL5.out | exact HLD.out _ hbX)) (fun hHeld => ?_)
                      clear hK K
                      try simp only [Act.put, nz1, nz2, nz3]
                      refine tkH (v := ?_) 11 ⟨some 64, _, _, _, _, _⟩ rfl (Or.inl ⟨by rfl, ?_⟩) ?_
                      rotate_left
                      · intro w hSw; (try dsimp only at hSw); go_simp; try (with_reducible rfl)
                      try simp only [Act.put, nz1, nz2, nz3]
                      refine tkH (v := ?_) 12 ⟨some 65, _, _, _, _, _⟩ rfl (Or.inl ⟨by rfl, ?_⟩) ?_
                      rotate_left
                      · intro w hSw; (try dsimp only at hSw); go_simp; try (with_reducible rfl)
                      try simp only [Act.put, nz1, nz2, nz3]
                      refine wpAnyH_ready (rs := [13]) (by kernel_rfl) (by simp) ?_
                      refine (AllReadyH.cons (o := ⟨none, _, _, _, _, _⟩) rfl (fun K hK => ?_) AllReadyH.nil)
                      (try rw [if_pos (by rfl)])
                      refine oper_store_val 80 _ _ rfl h.Hb 2 4 _ v5 (own_cells HOW5.out).1 (own_cells HOW5.out).2 rfl rfl 82 HBK5.out (by kernel_rfl) (by omega) ?_
                      intro W6 hw6
                      have HBK6 : Hid (Blk W6 h.Hb 82 (arr 4 (haF (h.va H) v5 (h.vd H) H))) := Lib.hid (by rw [hw6]; exact (HBK5.out.setRow _).same (ha_put _ _ _ _ _))
                      have HG6 : Hid (W5.grownBy W6 (some h.Hb)) := Lib.hid (by rw [hw6]; exact grown_row _ _ _)
                      have HX6 := Lib.hid (HBX.out.eqAt (HMY.out.mailB HG5.out HG6.out HBX.out (by decide) (by decide)))
                      have HL6 : Hid ((Instr.loadAt 71 (.pointer (some ⟨wp.heap.size, 0, none⟩))).run Try.prog W6 = .ok (.agg (actA x)) W6) := Lib.hid (load_act HX6.out HXO.out)
                      clear hw6
                      try dsimp only
                      refine hK.out _ _ ((by first | exact HL6.out | exact HL5.out | exact HLD.out _ hbX)) (fun hHeld => ?_)
                      clear hK K
                      try simp only [Act.put]
                      refine wpAnyH_done (by kernel_rfl) ?_ _
                      have hfin := HMY.out.mail HMO.out HFW.out HG5.out HOW5.out HOR5.out HBK6.out HG6.out HWB.out
                      go_wp2_with fail
                      go_roundw
                      case rel => exact ⟨k + 1, v5, by omega, by go_num, by rw [sendM_succ, if_pos ⟨HKI.out, HFW.out⟩]; exact hfin.1, HBY.out.trans hfin.2, HTY.out.mail HG5.out HG6.out HOR5.out, HOY.out.keepB fun g cs hb => HMY.out.mailB HG5.out HG6.out hb (by decide) (by decide), HX6.out⟩
                      case measure => simp [intOf]; omega
                    · (try rw [if_pos (by rfl)])
                      refine oper_build_mail _ rfl ⟨(i : Int), (k : Int), x⟩ HMO.out rfl ?_
                      have HRD9 := Lib.hid (rdMl_new wr.drew ⟨(i : Int), (k : Int), x⟩ HMO.out)
                      have hbX := (Below.refl _ wr).drew.alloc (Nat.le_refl _) (.cells (mailA ⟨(i : Int), (k : Int), x⟩) 85)
                      have HOW9 := Lib.hid (rowV_kept HMY.out.own hbX)
                      have HB9 : Hid (Below wr.heap.size wr (wr.drew.alloc (.cells (mailA ⟨(i : Int), (k : Int), x⟩) 85))) := Lib.hid hbX
                      try dsimp only
                      refine hK.out _ _ ((by first | exact HL6.out | exact HL5.out | exact HLD.out _ hbX)) (fun hHeld => ?_)
                      clear hK K
                      try simp only [Act.put, nz1, nz2, nz3]
                      refine wpAnyH_ready (rs := [4]) (by kernel_rfl) (by simp) ?_
                      refine (AllReadyH.cons (o := ⟨some 57, _, _, _, _, _⟩) rfl (fun K hK => ?_) AllReadyH.nil)
                      (try rw [if_pos (by rfl)])
                      refine oper_load 80 _ rfl _ _ rfl (HC3.out _ hbX) ?_
                      try simp only [Act.put, nz1, nz2, nz3]
                      try dsimp only
                      refine hK.out _ _ ((by first | exact HL6.out | exact HL5.out | exact HLD.out _ hbX)) (fun hHeld => ?_)
                      clear hK K
                      try simp only [Act.put, nz1, nz2, nz3]
                      refine wpAnyH_ready (rs := [10]) (by kernel_rfl) (by simp) ?_
                      refine (AllReadyH.cons (o := ⟨some 63, _, _, _, _, _⟩) rfl (fun K hK => ?_) AllReadyH.nil)
                      (try rw [if_pos (by rfl)])
                      obtain ⟨v5, W5, hrun, how5, hg5, hor5⟩ := app_mails (Nat.le_trans HWB.out HB9.out.size) HOW9.out HRD9.out (by have := HMY.out.few; have := HML.out; first | omega | (simp only [List.length_singleton]; omega))
                      refine oper_append _ _ _ _ rfl _ _ rfl rfl v5 W5 hrun ?_
                      have HOW5 := Lib.hid how5
                      have HG5 := Lib.hid (grown_trans (grown_of_below HB9.out _) hg5)
                      have HOR5 : Hid (v5.ownBlock = Value.ownBlock (.slice A1 mn c1) ∨ ∃ g, v5.ownBlock = some g ∧ wr.heap.size ≤ g) := Lib.hid (hor5.imp (fun e => e) fun e => ⟨_, e, HB9.out.size⟩)
                      have HBK5 : Hid (Blk W5 h.Hb 82 (arr 4 (haF (h.va H) (.slice A1 mn c1) (h.vd H) H))) := Lib.hid (HMY.out.blk.grown HG5.out fun e => by
                        obtain ⟨ds, h3, _⟩ := row_at HMY.out.own e.symm
                        exact blk_ne HMY.out.blk h3 (by decide) rfl)
                      have HL5 : Hid ((Instr.loadAt 71 (.pointer (some ⟨wp.heap.size, 0, none⟩))).run Try.prog W5 = .ok (.agg (actA x)) W5) := Lib.hid (load_act (HBX.out.grown HG5.out fun e => by
                        obtain ⟨ds, h3, _⟩ := row_at HMY.out.own e.symm
                        exact blk_ne HBX.out h3 (by decide) rfl) HXO.out)
                      clear hrun how5 hg5 hor5 hbX
                      try dsimp only
                      refine hK.out _ _ ((by first | exact HL6.out | exact HL5.out | exact HLD.out _ hbX)) (fun hHeld => ?_)
                      clear hK K
                      try simp only [Act.put, nz1, nz2, nz3]
                      refine tkH (v := ?_) 11 ⟨some 64, _, _, _, _, _⟩ rfl (Or.inl ⟨by rfl, ?_⟩) ?_
                      rotate_left
                      · intro w hSw; (try dsimp only at hSw); go_simp; try (with_reducible rfl)
                      try simp only [Act.put, nz1, nz2, nz3]
                      refine tkH (v := ?_) 12 ⟨some 65, _, _, _, _, _⟩ rfl (Or.inl ⟨by rfl, ?_⟩) ?_
                      rotate_left
                      · intro w hSw; (try dsimp only at hSw); go_simp; try (with_reducible rfl)
                      try simp only [Act.put, nz1, nz2, nz3]
                      refine wpAnyH_ready (rs := [13]) (by kernel_rfl) (by simp) ?_
                      refine (AllReadyH.cons (o := ⟨none, _, _, _, _, _⟩) rfl (fun K hK => ?_) AllReadyH.nil)
                      (try rw [if_pos (by rfl)])
                      refine oper_store_val 80 _ _ rfl h.Hb 2 4 _ v5 (own_cells HOW5.out).1 (own_cells HOW5.out).2 rfl rfl 82 HBK5.out (by kernel_rfl) (by omega) ?_
                      intro W6 hw6
                      have HBK6 : Hid (Blk W6 h.Hb 82 (arr 4 (haF (h.va H) v5 (h.vd H) H))) := Lib.hid (by rw [hw6]; exact (HBK5.out.setRow _).same (ha_put _ _ _ _ _))
                      have HG6 : Hid (W5.grownBy W6 (some h.Hb)) := Lib.hid (by rw [hw6]; exact grown_row _ _ _)
                      have HX6 := Lib.hid (HBX.out.eqAt (HMY.out.mailB HG5.out HG6.out HBX.out (by decide) (by decide)))
                      have HL6 : Hid ((Instr.loadAt 71 (.pointer (some ⟨wp.heap.size, 0, none⟩))).run Try.prog W6 = .ok (.agg (actA x)) W6) := Lib.hid (load_act HX6.out HXO.out)
                      clear hw6
                      try dsimp only
                      refine hK.out _ _ ((by first | exact HL6.out | exact HL5.out | exact HLD.out _ hbX)) (fun hHeld => ?_)
                      clear hK K
                      try simp only [Act.put]
                      refine wpAnyH_done (by kernel_rfl) ?_ _
                      have hfin := HMY.out.mail HMO.out HFW.out HG5.out HOW5.out HOR5.out HBK6.out HG6.out HWB.out
                      go_wp2_with fail
                      go_roundw
                      case rel => exact ⟨k + 1, v5, by omega, by go_num, by rw [sendM_succ, if_pos ⟨HKI.out, HFW.out⟩]; exact hfin.1, HBY.out.trans hfin.2, HTY.out.mail HG5.out HG6.out HOR5.out, HOY.out.keepB fun g cs hb => HMY.out.mailB HG5.out HG6.out hb (by decide) (by decide), HX6.out⟩
                      case measure => simp [intOf]; omega
                  · have hfi : ¬ (mn : Int) < 2000 := by omega
                    have hsm : sendM H i x (lg.take j |>.foldl (takeM1 H i) h.ms) (k + 1) = sendM H i x (lg.take j |>.foldl (takeM1 H i) h.ms) k := by rw [sendM_succ, if_neg (fun e => hfw (HML.out ▸ e.2))]
                    have HSM := Lib.hid hsm
                    clear hsm hfw
                    go_wp2_with fail
                    go_roundw
                    case rel => exact ⟨k + 1, _, by omega, by go_num, by rw [HSM.out]; exact HMY.out, HBY.out, HTY.out, HOY.out, HBX.out⟩
                    case measure => simp [intOf]; omega
              · obtain rfl : k = H := by omega
                have hki : ¬ (k : Int) < (k : Int) := by omega
                have HMY := Lib.hid hMy
                have HBY := Lib.hid hBy
                have HOY := Lib.hid hOy
                have HTY := Lib.hid hTy
                clear hMy hBy hTy hOy hxb
                go_wp2_with fail
                go_roundw
                case rel =>
                  refine ⟨j + 1, vm1, hjl, by go_num, ?_, HBY.out, HTY.out, HOY.out⟩
                  rw [take_foldG (takeM1 k i) HXK.out, take_foldG (takeD1 i) HXK.out]
                  have e1 : takeM1 k i ((lg.take j).foldl (takeM1 k i) h.ms) x = sendM k i x ((lg.take j).foldl (takeM1 k i) h.ms) k := if_pos HX12.out
                  have e2 : takeD1 i ((lg.take j).foldl (takeD1 i) h.ds) x = (lg.take j).foldl (takeD1 i) h.ds := if_neg HX4.out
                  rw [e1, e2]
                  exact HMY.out
                case measure => simp [intOf]; omega
        · have h1b : (x.kind != 1) = true := by rw [bne_iff_ne]; omega
          have h2b : (x.kind != 2) = true := by rw [bne_iff_ne]; omega
          have h1n : ¬ x.kind = 1 := by omega
          have h2n : ¬ x.kind = 2 := by omega
          have HX12 := Lib.hid h12
          clear h12
          go_wp2_with fail
          go_roundw
          case rel =>
            refine ⟨j + 1, vm, hjl, by go_num, ?_, hB, hT, hO⟩
            rw [take_foldG (takeM1 H i) HXK.out, take_foldG (takeD1 i) HXK.out]
            have e1 : takeM1 H i ((lg.take j).foldl (takeM1 H i) h.ms) x = (lg.take j).foldl (takeM1 H i) h.ms := if_neg HX12.out
            have e2 : takeD1 i ((lg.take j).foldl (takeD1 i) h.ds) x = (lg.take j).foldl (takeD1 i) h.ds := if_neg HX4.out
            rw [e1, e2]
            exact hM
          case measure => simp [intOf]; omega
    · obtain rfl : j = nl := by omega
      have hji : ¬ (j : Int) < (j : Int) := by omega
      have hfull : lg.take j = lg := List.take_of_length_le (by rw [HNL.out]; exact Nat.le_refl _)
      rw [hfull] at hM
      have HM9 := Lib.hid hM
      clear hfull hM
      go_wp2_with fail
      go_end0
      exact ⟨⟨_, rfl⟩, hB, vm, HM9.out, hT⟩
end Go.Proofs.Ytbgojlcciealiaa
