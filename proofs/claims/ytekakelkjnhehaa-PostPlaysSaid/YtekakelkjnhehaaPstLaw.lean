/-
  PostPlays' walk: for whatever steps, in whatever memory: true; nothing old turns.
-/
import Derived.Test.YtekakelkjnhehaaQOps
import Derived.Test.YtekakelkjnhehaaPackRefWrite
import Derived.Deep.CutBlock
import Derived.Deep.CutRange
import Derived.Lib.SlBuf
namespace Go.Proofs.Ytekakelkjnhehaa
open Go Go.RowKit PackMath

theorem rd_bytes_P (L : List UInt8) (hL : L.length ≤ 1099511627776) (w : World) : ∃ A c w', (convert 9 32 (.string ⟨L.toArray⟩)).run Try.prog w = .ok (.slice A L.length c) w' ∧ RdB w' (fun b => w.heap.size ≤ b ∧ b < w'.heap.size) (.slice A L.length c) L ∧ Below w.heap.size w w' := by
  have hrun := run_bytes_of_string (P := Try.prog) w 9 32 5 ⟨L.toArray⟩ Try.underlying9 Try.underlying32 Try.underlying5
  have hsz : (⟨L.toArray⟩ : ByteArray).size = L.length := by simp [ByteArray.size]
  rw [hsz] at hrun
  have hge := grownCap_ge w L.length 0 5
  obtain ⟨cap, hcap⟩ : ∃ cap, grownCap w L.length 0 5 = cap := ⟨_, rfl⟩
  rw [hcap] at hrun hge
  obtain ⟨C, hC⟩ : ∃ C, bytesRow ⟨L.toArray⟩ cap = C := ⟨_, rfl⟩
  rw [hC] at hrun
  have hg : (w.drew.alloc (.cells C 5 (C.size, C.size + 1))).heap[w.heap.size]? = some (.cells C 5 (C.size, C.size + 1)) := heap_alloc_new w.drew _
  obtain ⟨w', hw'⟩ : ∃ w', (w.drew.alloc (.cells C 5 (C.size, C.size + 1))) = w' := ⟨_, rfl⟩
  have hszw : w'.heap.size = w.heap.size + 1 := by rw [← hw']; simp
  have hbw : Below w.heap.size w w' := hw' ▸ (Below.refl _ _).drew.alloc (Nat.le_refl _) _
  rw [hw'] at hrun hg
  have hcell : ∀ j, w'.cell? ⟨w.heap.size, j, none⟩ = C[j]? := fun j => by unfold World.cell?; simp only [hg]; simp
  refine ⟨_, cap, w', hrun, rdB_cells (n := L.length) (fun j hj => ?_) rfl hge (by omega) ⟨Nat.le_refl _, by omega⟩, hbw⟩
  rw [hcell, ← hC]
  unfold bytesRow
  rw [Array.getElem?_append_left (by simpa using hj)]
  simp [List.getD_eq_getElem?_getD, List.getElem?_eq_getElem hj, bv]
section
variable {ops : Array Oper} {rest : List Oper} {o : Oper} {a : Act} {w : World} {Q : Exit → Act → World → Prop}
theorem wpList_bytes_P (hgd : o.guard = none) (x : Operand) (ho : o.op = .convert 9 32 x) (S : ByteArray) (hx : a.eval x = .string S) (L : List UInt8) (hS : ⟨L.toArray⟩ = S) (hL : L.length ≤ 1099511627776)
    (h : ∀ A c w', RdB w' (fun b => w.heap.size ≤ b ∧ b < w'.heap.size) (.slice A L.length c) L → Below w.heap.size w w' → wpList Try.prog ops Q rest (a.put o.dst (.slice A L.length c)) w') : wpList Try.prog ops Q (o :: rest) a w := by
  subst hS
  obtain ⟨A, c, w', hrun, hr, hb⟩ := rd_bytes_P L hL w
  refine wpList_plain hgd fun K hK => ?_
  unfold Oper.wp
  simp [execOp, ho, hx, hrun, Result.andThen, Oper.upon]
  exact hK _ _ (h A c w' hr hb)
end
theorem mail_some (a b : Bool) (c e : Int) (A : Option Addr) (n k : Nat) : (Try.prog.built 48 [(0, .agg #[.bool a, .int .i64 c]), (1, .agg #[.bool b, .int .i64 e]), (2, .slice A n k)]).isSome = true := by kernel_rfl
theorem mail_built (m : MailS) (A : Option Addr) (n k : Nat) : (Try.prog.built 48 [(0, .agg #[.bool m.fc, .int .i64 m.fn]), (1, .agg #[.bool m.tc, .int .i64 m.tn]), (2, .slice A n k)]).getD #[] = (mC m (.slice A n k)).toArray := by kernel_rfl
theorem mail_builtV (m : MailS) (A : Option Addr) (n k : Nat) : Value.agg ((Try.prog.built 48 [(0, .agg #[.bool m.fc, .int .i64 m.fn]), (1, .agg #[.bool m.tc, .int .i64 m.tn]), (2, .slice A n k)]).getD #[]) = mailV m (.slice A n k) := congrArg Value.agg (mail_built m A n k)
section
variable {W : World} {g6 : Nat} {o : OpP} {d i l u : Value}
theorem step_at (h : Blk W g6 38 (opA o d i l u)) {j : Nat} (hj : j < 48) : W.cell? ⟨g6, j, none⟩ = some (opF o d i l u j) := by
  rw [h.cell]
  unfold opA
  rw [arr_get, if_pos hj]
theorem step_from (h : Blk W g6 38 (opA o d i l u)) : (Instr.loadAt 29 (.pointer (some ⟨g6, 2, none⟩))).run Try.prog W = .ok (.agg #[.bool o.fc, .int .i64 o.fn]) W := by
  refine run_load_el W 29 _ Try.underlying29 rfl _ [.bool o.fc, .int .i64 o.fn] (by kernel_rfl) fun q hq => ?_
  have hq2 : q = 0 ∨ q = 1 := by simp at hq; omega
  rcases hq2 with rfl | rfl
  · exact step_at h (j := 2) (by omega)
  · exact step_at h (j := 3) (by omega)
theorem step_to (h : Blk W g6 38 (opA o d i l u)) : (Instr.loadAt 29 (.pointer (some ⟨g6, 4, none⟩))).run Try.prog W = .ok (.agg #[.bool o.tc, .int .i64 o.tn]) W := by
  refine run_load_el W 29 _ Try.underlying29 rfl _ [.bool o.tc, .int .i64 o.tn] (by kernel_rfl) fun q hq => ?_
  have hq2 : q = 0 ∨ q = 1 := by simp at hq; omega
  rcases hq2 with rfl | rfl
  · exact step_at h (j := 4) (by omega)
  · exact step_at h (j := 5) (by omega)
theorem step_msg (h : Blk W g6 38 (opA o d i l u)) : (Instr.loadAt 36 (.pointer (some ⟨g6, 6, none⟩))).run Try.prog W = .ok (.agg (msgA o.r d i l)) W := by
  have hs : (msgA o.r d i l).size = 41 := arr_size _ _
  have h0 := run_load_el W 36 _ Try.underlying36 rfl ⟨g6, 6, none⟩ (msgA o.r d i l).toList (by rw [Array.length_toList, hs]; kernel_rfl) fun q hq => by
    rw [Array.length_toList, hs] at hq
    have h1 := step_at h (j := q + 6) (by omega)
    have h2 : opF o d i l u (q + 6) = msgF o.r d i l q := by
      show (if q + 6 < 47 then msgF o.r d i l (q + 6 - 6) else u) = _
      rw [if_pos (by omega), Nat.add_sub_cancel]
    rw [h2] at h1
    rw [Array.getElem?_toList]
    unfold msgA
    rw [arr_get, if_pos hq, ← h1]
    congr 1
    unfold Addr.add
    split <;> simp_all [Nat.add_comm]
  exact h0
theorem op_load {ad : Addr} (hs : ∀ j, j < 48 → W.cell? (ad.add j) = some (opF o d i l u j)) : (Instr.loadAt 38 (.pointer (some ad))).run Try.prog W = .ok (.agg (opA o d i l u)) W := by
  have hz : (opA o d i l u).size = 48 := arr_size _ _
  refine run_load_el W 38 _ Try.underlying38 rfl ad (opA o d i l u).toList (by rw [Array.length_toList, hz]; kernel_rfl) fun q hq => ?_
  rw [Array.length_toList, hz] at hq
  rw [hs q hq, Array.getElem?_toList]
  unfold opA
  rw [arr_get, if_pos hq]
end
theorem load_refP {W : World} {gx : Nat} {m : MailS} (h : Blk W gx 45 (refC m).toArray) : (Instr.loadAt 45 (.pointer (some ⟨gx, 0, none⟩))).run Try.prog W = .ok (refV m) W := by
  refine run_load_el W 45 _ Try.underlying45 rfl _ (refC m) (by kernel_rfl) fun q hq => ?_
  have := h.cell q
  rw [List.getElem?_toArray] at this
  rw [← this]
  congr 1
  unfold Addr.add
  split <;> simp_all
theorem load_mailP {W : World} {gx : Nat} {m : MailS} {u : Value} (h : Blk W gx 48 (mC m u).toArray) : (Instr.loadAt 48 (.pointer (some ⟨gx, 0, none⟩))).run Try.prog W = .ok (mailV m u) W := by
  refine run_load_el W 48 _ Try.underlying48 rfl _ (mC m u) (by kernel_rfl) fun q hq => ?_
  have := h.cell q
  rw [List.getElem?_toArray] at this
  rw [← this]
  congr 1
  unfold Addr.add
  split <;> simp_all
theorem guard_refP (x y : Operand) (m : MailS) (w : World) : (eqGuard .neq 45 x y (refV m) (refV m)).run Try.prog w = .ok () w := by
  have h : Try.prog.eqGuardType Try.prog.depth 45 = false := by kernel_rfl
  unfold eqGuard refV
  simp [Sem.run_bind, h]
theorem index_op (ad : Addr) (n c i : Nat) (hi : i < n) (w : World) : (Instr.indexAt 22 (.slice (some ad) n c) (.int .i64 (i : Int))).run Try.prog w = .ok (.pointer (some (ad.add (i * 48)))) w := by
  have hk1 : (i : Int) < (n : Int) := by omega
  have hsz : (sizeOf 38).run Try.prog w = .ok 48 w := by kernel_rfl
  simp [Instr.indexAt, asIntOf, Sem.run_bind, run_underlying Try.underlying22]
  intro hh
  omega
/-- What a step leaves. -/
def PlayC (w wx : World) (g : Nat) (v e c : Value) : Prop := ∃ l code, e = .int .i64 code ∧ c = .int .i64 code ∧ PLQ w g (fun _ => False) v l l wx
set_option maxRecDepth 100000 in
set_option maxHeartbeats 60000000 in
theorem playsP_in (A : Option Addr) (c n : Nat) (ops : List OpP) (w : World) (hn : n ≤ 100) (hl : ops.length = n) (hr : RdOpsP w (fun b => b < w.heap.size) A ops) :
    Calls Try.prog 3 #[.slice A n c] w fun e w' => e = .returned (.bool true) ∧ Below w.heap.size w w' := by
  have RK := Lib.hid hr
  have LK := Lib.hid hl
  clear hr hl
  have hn2 : decide ((n : Int) > 100) = false := decide_eq_false (by omega)
  go_enter Try.func3, Try.ntmps3
  go_upto_region 6 with (go_at_call 6; refine (carries_any _).mono ?_; rintro e w1 ⟨rfl, hb1⟩)
  obtain ⟨g, hg⟩ : ∃ g, w1.heap.size = g := ⟨_, rfl⟩
  have hp0 := plq_start hb1
  obtain ⟨w2, hw2⟩ : ∃ z, w1.alloc (.cells #[.slice none 0 0] 26) = z := ⟨_, rfl⟩
  rw [hw2, hg] at hp0
  rw [hw2, hg]
  have HP00 := Lib.hid hp0
  clear hp0 hw2 hg hb1
  go_wp2_with fail
  go_loopw [4, 24] (fun s i wr => ∃ (k : Nat) (l : List MailS) (Av : Option Addr) (lv cv : Nat), k ≤ n ∧ s = .slice Av lv cv ∧ i = .int .i64 (k : Int) ∧ PLQ w g (fun _ => False) (.slice Av lv cv) l l wr) (fun _ i _ => n - (intOf i).toNat)
  case atStart => exact ⟨0, [], none, 0, 0, Nat.zero_le _, rfl, rfl, HP00.out⟩
  case round =>
    clear HP00
    obtain ⟨k, l, Av, lv, cv, hk, rfl, rfl, hrel⟩ := hrel
    obtain ⟨wp, hwp⟩ : ∃ z, z = wr := ⟨_, rfl⟩
    subst hwp
    have HPW := Lib.hid hrel
    by_cases hlt : k < n
    · obtain ⟨ad, o, dv, iv, nv, uv, hA, hok, ho, hcs, hrr, hru⟩ := RK.out k (by rw [LK.out]; exact hlt)
      subst hA
      have hkn : (k : Int) < (n : Int) := by omega
      have hix := fun w' => index_op ad n c k hlt w'
      obtain ⟨Au, cu, rfl⟩ := hru.shape
      obtain ⟨nu, hnu⟩ : ∃ z, o.bs.length = z := ⟨_, rfl⟩
      rw [hnu] at hru hcs
      obtain ⟨Ad, cd, hdv⟩ := op_bytes hrr
      obtain ⟨nd, hnd⟩ : ∃ z, o.r.data.length = z := ⟨_, rfl⟩
      rw [hnd] at hdv
      have HLD := Lib.hid (op_load (W := wp) (ad := ad.add (k * 48)) (fun j hj => by
        rw [add_add, Nat.mul_comm]
        exact (HPW.out.old.cell (p := ad.add (48 * k + j)) (by rw [block_add]; exact hok)).trans (hcs j hj)))
      have HONE := Lib.hid (op_one (u := .slice Au nu cu) hrr hru)
      have HRR : Hid (∀ W, Below w.heap.size w W → RdR W (fun b => b < W.heap.size) o.r dv iv nv) := Lib.hid fun W hb => (hrr.kept fun a x ha h => (hb.cell (p := a) ha).trans h).mono fun b h => Nat.lt_of_lt_of_le h hb.size
      have HRU : Hid (∀ W, Below w.heap.size w W → RdB W (fun b => b < W.heap.size) (.slice Au nu cu) o.bs) := Lib.hid fun W hb => (hru.kept fun a x ha h => (hb.cell (p := a) ha).trans h).mono fun b h => Nat.lt_of_lt_of_le h hb.size
      have HPF := Lib.hid (fun (W : World) (g6 : Nat) (h : Blk W g6 38 (opA o dv iv nv (.slice Au nu cu))) => step_from h)
      have HPT := Lib.hid (fun (W : World) (g6 : Nat) (h : Blk W g6 38 (opA o dv iv nv (.slice Au nu cu))) => step_to h)
      have HPM := Lib.hid (fun (W : World) (g6 : Nat) (h : Blk W g6 38 (opA o dv iv nv (.slice Au nu cu))) => step_msg h)
      have HC0 : Hid (∀ (W : World) (g6 : Nat), Blk W g6 38 (opA o dv iv nv (.slice Au nu cu)) → W.cell? ⟨g6, 0, none⟩ = some (.int .i64 o.kind)) := Lib.hid fun W g6 h => step_at h (j := 0) (by omega)
      have HC1 : Hid (∀ (W : World) (g6 : Nat), Blk W g6 38 (opA o dv iv nv (.slice Au nu cu)) → W.cell? ⟨g6, 1, none⟩ = some (.int .i64 o.pos)) := Lib.hid fun W g6 h => step_at h (j := 1) (by omega)
      have HC44 : Hid (∀ (W : World) (g6 : Nat), Blk W g6 38 (opA o dv iv nv (.slice Au nu cu)) → W.cell? ⟨g6, 44, none⟩ = some (.slice Ad nd cd)) := Lib.hid fun W g6 h => by rw [step_at h (j := 44) (by omega), ← hdv]; rfl
      have HC47 : Hid (∀ (W : World) (g6 : Nat), Blk W g6 38 (opA o dv iv nv (.slice Au nu cu)) → W.cell? ⟨g6, 47, none⟩ = some (.slice Au nu cu)) := Lib.hid fun W g6 h => by rw [step_at h (j := 47) (by omega)]; rfl
      have HSZ : Hid ((opA o dv iv nv (.slice Au nu cu)).size = 48) := Lib.hid (arr_size _ _)
      obtain ⟨MG, hMG⟩ : ∃ z, msgA o.r dv iv nv = z := ⟨_, rfl⟩
      rw [hMG] at HPM
      have HMG := Lib.hid hMG
      obtain ⟨M, hM⟩ : ∃ z, opA o dv iv nv (.slice Au nu cu) = z := ⟨_, rfl⟩
      rw [hM] at HLD HONE HPF HPT HPM HC0 HC1 HC44 HC47 HSZ
      obtain ⟨W0, hW0⟩ : ∃ z, wp.alloc (.cells M 38) = z := ⟨_, rfl⟩
      have hb0 : Below wp.heap.size wp W0 := by rw [← hW0]; exact (Below.refl _ _).alloc (Nat.le_refl _) _
      obtain ⟨g6, hg6⟩ : ∃ z, wp.heap.size = z := ⟨_, rfl⟩
      have HK6 : Hid (Blk W0 g6 38 M) := Lib.hid (by rw [← hW0, ← hg6]; exact Blk.newAt _ _ rfl rfl)
      have HP0 : Hid (PLQ w g (fun b => b = g6) (.slice Av lv cv) l l W0) := Lib.hid (by
        have := HPW.out.own (.cells M 38)
        rw [hW0, hg6] at this
        exact this.weak fun b hb => .inr hb)
      have HW0 := Lib.hid hW0
      have HB0 := Lib.hid hb0
      have HG6 := Lib.hid hg6
      clear hrel hrr hru hdv hnu hnd hMG hM hW0 hb0 hcs hok ho hg6
      go_upto_region 10 with (first
        | (guard_target = wpList _ _ _ (Oper.mk _ (.load 38 _) _ _ _ _ :: _) _ _; refine wpList_load_runT (by rfl) 38 _ rfl (.pointer (some (ad.add (k * 48)))) (.agg M) rfl HLD.out ?_)
        | (guard_target = wpList _ _ _ (Oper.mk _ (.store 38 _ _) _ _ _ _ :: _) _ _; refine wpList_store_row rfl 38 _ _ rfl wp.heap.size M rfl rfl 38 _ (heap_alloc_new wp _) (by rw [HSZ.out]; kernel_rfl) (by rw [HSZ.out]; rfl) HONE.out ?_; rw [World.setRow_alloc_new, HW0.out]))
      rw [HG6.out]
      clear hix
      have c47 := HC47.out _ _ HK6.out
      have c44 := HC44.out _ _ HK6.out
      have c0 := HC0.out _ _ HK6.out
      by_cases h5 : 500 < nu
      · have e5 : decide ((nu : Int) > 500) = true := decide_eq_true (by omega)
        clear HC0 HC1
        go_wp2
        go_roundw
        · exact ⟨k + 1, l, Av, lv, cv, by omega, rfl, by go_num, HP0.out.weak fun b hb => hb.elim⟩
        · simp [intOf]
          omega
      · have e5 : decide ((nu : Int) > 500) = false := decide_eq_false (by omega)
        by_cases h6 : 500 < nd
        · have e6 : decide ((nd : Int) > 500) = true := decide_eq_true (by omega)
          go_wp2
          go_roundw
          · exact ⟨k + 1, l, Av, lv, cv, by omega, rfl, by go_num, HP0.out.weak fun b hb => hb.elim⟩
          · simp [intOf]
            omega
        · have e6 : decide ((nd : Int) > 500) = false := decide_eq_false (by omega)
          clear h5 h6
          go_upto_block 2 with fail
          clear e5 e6 c47 c44 c0
          go_cut [4, 7, 8, 9, 10, 11, 12, 13] from 25 to 152 (fun s e cc s9 s10 s11 s12 s13 wx => PlayC w wx g s e cc)
          case first =>
            by_cases k0 : o.kind = 0
            · have b0 : (o.kind == 0) = true := by simpa using k0
              clear k0
              by_cases hf : o.r.Fit
              · have HE : Hid (sendE o.r l = putE l ∧ sendM o.r ⟨o.fc, o.fn, o.tc, o.tn, []⟩ l = putM l ⟨o.fc, o.fn, o.tc, o.tn, writeM o.r.m⟩) := Lib.hid ⟨if_pos hf, if_pos hf⟩
                have HW := Lib.hid (refWrite_ok o.r hf dv iv nv W0 (HRR.out W0 HP0.out.old))
                rw [HMG.out] at HW
                have HWL : Hid ((writeM o.r.m).length ≤ 1099511627776) := Lib.hid (Nat.le_trans (write_len hf.ok) (by omega))
                clear hf
                obtain ⟨bs, hbs⟩ : ∃ bs, writeM o.r.m = bs := ⟨_, rfl⟩
                rw [hbs] at HW HWL HE
                clear hbs
                have k6 := HK6.out
                go_upto_region 17 with (first
                  | (guard_target = wpList _ _ _ (Oper.mk _ (.load 36 (.tmp 44)) _ _ _ _ :: _) _ _; refine wpList_load_runT (by rfl) 36 _ rfl (.pointer (some ⟨g6, 6, none⟩)) (.agg MG) rfl (HPM.out _ _ k6) ?_)
                  | (go_at_call 7; refine HW.out.mono ?_; rintro e W1 ⟨rfl, hb1⟩; have k1 := k6.below hb1 k6.lt; have HP1 := Lib.hid (HP0.out.below hb1); clear hb1))
                have HK1 := Lib.hid k1
                clear k1 k6
                have k1 := HK1.out
                go_upto_region 18 with (first
                  | (guard_target = wpList _ _ _ (Oper.mk _ (.load 29 (.tmp 54)) _ _ _ _ :: _) _ _; refine wpList_load_runT (by rfl) 29 _ rfl (.pointer (some ⟨g6, 2, none⟩)) (.agg #[.bool o.fc, .int .i64 o.fn]) rfl (HPF.out _ _ k1) ?_)
                  | (guard_target = wpList _ _ _ (Oper.mk _ (.load 29 (.tmp 56)) _ _ _ _ :: _) _ _; refine wpList_load_runT (by rfl) 29 _ rfl (.pointer (some ⟨g6, 4, none⟩)) (.agg #[.bool o.tc, .int .i64 o.tn]) rfl (HPT.out _ _ k1) ?_)
                  | (guard_target = wpList _ _ _ (Oper.mk _ (.convert _ _ _) _ _ _ _ :: _) _ _; refine wpList_bytes_P rfl _ rfl ⟨bs.toArray⟩ rfl bs rfl HWL.out ?_; intro Ab cb W2 hr2 hb2; have k2 := k1.below hb2 k1.lt; have HP2 := Lib.hid (HP1.out.below hb2); have HPN : Hid (∀ W, W = W2 → Calls Try.prog 9 #[Value.agg ((Try.prog.built 48 [(0, .agg #[.bool o.fc, .int .i64 o.fn]), (1, .agg #[.bool o.tc, .int .i64 o.tn]), (2, .slice Ab bs.length cb)]).getD #[])] W fun e w' => e = .returned (refV ⟨o.fc, o.fn, o.tc, o.tn, bs⟩) ∧ Below W.heap.size W w') := Lib.hid (fun W hW => by rw [mail_builtV ⟨o.fc, o.fn, o.tc, o.tn, bs⟩, hW]; exact plain_any ⟨o.fc, o.fn, o.tc, o.tn, bs⟩ (.slice Ab bs.length cb) W2 (hr2.mono fun b hb => hb.2)); clear hr2 hb2)
                  | (guard_target = wpList _ _ _ (Oper.mk _ (.build 48 _) _ _ _ _ :: _) _ _; refine wpList_build rfl _ _ rfl (mail_some _ _ _ _ _ _ _) ?_)
                  | (go_at_call 9; refine (HPN.out W2 rfl).mono ?_; rintro e W3 ⟨rfl, hb3⟩; have k3 := k2.below hb3 k2.lt; have HPP := Lib.hid ((HP2.out.below hb3).refPut ⟨o.fc, o.fn, o.tc, o.tn, bs⟩); clear hb3)
                  | (go_at_call 8; refine HPP.out.mono ?_; rintro e W4 ⟨v4, rfl, hp4, hb4⟩; have HK4 := Lib.hid (k3.below hb4 k3.lt); have HP4 := Lib.hid hp4; have HS4 := Lib.hid (hp4.send o.r dv iv nv o.fc o.tc o.fn o.tn (HRR.out W4 hp4.old)); rw [HMG.out, HE.out.1, HE.out.2] at HS4; clear hp4 hb4))
                clear k1
                have k4 := HK4.out
                go_wp2_with (first
                  | (guard_target = wpList _ _ _ (Oper.mk _ (.load 29 (.tmp 65)) _ _ _ _ :: _) _ _; refine wpList_load_runT (by rfl) 29 _ rfl (.pointer (some ⟨g6, 2, none⟩)) (.agg #[.bool o.fc, .int .i64 o.fn]) rfl (HPF.out _ _ k4) ?_)
                  | (guard_target = wpList _ _ _ (Oper.mk _ (.load 29 (.tmp 67)) _ _ _ _ :: _) _ _; refine wpList_load_runT (by rfl) 29 _ rfl (.pointer (some ⟨g6, 4, none⟩)) (.agg #[.bool o.tc, .int .i64 o.tn]) rfl (HPT.out _ _ k4) ?_)
                  | (guard_target = wpList _ _ _ (Oper.mk _ (.load 36 (.tmp 69)) _ _ _ _ :: _) _ _; refine wpList_load_runT (by rfl) 36 _ rfl (.pointer (some ⟨g6, 6, none⟩)) (.agg MG) rfl (HPM.out _ _ k4) ?_)
                  | (go_at_call 10; refine HS4.out.mono ?_; rintro e W5 ⟨rfl, hp5, ht5⟩))
                go_meet
                exact ⟨_, _, rfl, rfl, hp5.weak fun b hb => hb.elim⟩
              · have HE : Hid (sendE o.r l = (o.r.check : Int) ∧ sendM o.r ⟨o.fc, o.fn, o.tc, o.tn, []⟩ l = l) := Lib.hid ⟨if_neg hf, if_neg hf⟩
                have HW := Lib.hid (refWrite_no o.r hf dv iv nv W0 (HRR.out W0 HP0.out.old))
                rw [HMG.out] at HW
                obtain ⟨kc, hkc⟩ : ∃ z, o.r.check = z := ⟨_, rfl⟩
                have h0 : ¬ kc = 0 := fun h => hf (o.r.fit_iff.1 (hkc.trans h))
                rw [hkc] at HW HE
                clear hf hkc
                have e5 : ((kc : Int) == 0) = false := by simpa using h0
                have k6 := HK6.out
                go_upto_region 18 with (first
                  | (guard_target = wpList _ _ _ (Oper.mk _ (.load 36 (.tmp 44)) _ _ _ _ :: _) _ _; refine wpList_load_runT (by rfl) 36 _ rfl (.pointer (some ⟨g6, 6, none⟩)) (.agg MG) rfl (HPM.out _ _ k6) ?_)
                  | (go_at_call 7; refine HW.out.mono ?_; rintro e W1 ⟨rfl, hb1⟩; have HK1 := Lib.hid (k6.below hb1 k6.lt); have HP1 := Lib.hid (HP0.out.below hb1); have HS1 := Lib.hid (HP1.out.send o.r dv iv nv o.fc o.tc o.fn o.tn (HRR.out W1 HP1.out.old)); rw [HMG.out, HE.out.1, HE.out.2] at HS1; clear hb1))
                clear k6 e5 h0
                have k1 := HK1.out
                go_wp2_with (first
                  | (guard_target = wpList _ _ _ (Oper.mk _ (.load 29 (.tmp 65)) _ _ _ _ :: _) _ _; refine wpList_load_runT (by rfl) 29 _ rfl (.pointer (some ⟨g6, 2, none⟩)) (.agg #[.bool o.fc, .int .i64 o.fn]) rfl (HPF.out _ _ k1) ?_)
                  | (guard_target = wpList _ _ _ (Oper.mk _ (.load 29 (.tmp 67)) _ _ _ _ :: _) _ _; refine wpList_load_runT (by rfl) 29 _ rfl (.pointer (some ⟨g6, 4, none⟩)) (.agg #[.bool o.tc, .int .i64 o.tn]) rfl (HPT.out _ _ k1) ?_)
                  | (guard_target = wpList _ _ _ (Oper.mk _ (.load 36 (.tmp 69)) _ _ _ _ :: _) _ _; refine wpList_load_runT (by rfl) 36 _ rfl (.pointer (some ⟨g6, 6, none⟩)) (.agg MG) rfl (HPM.out _ _ k1) ?_)
                  | (go_at_call 10; refine HS1.out.mono ?_; rintro e W5 ⟨rfl, hp5, ht5⟩))
                go_meet
                exact ⟨_, _, rfl, rfl, hp5.weak fun b hb => hb.elim⟩
            · have b0 : (o.kind == 0) = false := by simpa using k0
              by_cases k1 : o.kind = 1
              · have b1 : (o.kind == 1) = true := by simpa using k1
                clear k0 k1
                have k6 := HK6.out
                have c47 := HC47.out _ _ k6
                have HRU0 := Lib.hid (HRU.out W0 HP0.out.old)
                obtain ⟨W1, hW1⟩ : ∃ z, W0.alloc (.cells (mC ⟨o.fc, o.fn, o.tc, o.tn, o.bs⟩ (.slice Au nu cu)).toArray 48) = z := ⟨_, rfl⟩
                have hb1 : Below W0.heap.size W0 W1 := by rw [← hW1]; exact (Below.refl _ _).alloc (Nat.le_refl _) _
                have hm1 : Blk W1 W0.heap.size 48 (mC ⟨o.fc, o.fn, o.tc, o.tn, o.bs⟩ (.slice Au nu cu)).toArray := by rw [← hW1]; exact Blk.newAt _ _ rfl rfl
                have hp1 := HP0.out.own (.cells (mC ⟨o.fc, o.fn, o.tc, o.tn, o.bs⟩ (.slice Au nu cu)).toArray 48)
                rw [hW1] at hp1
                have HP1 := Lib.hid hp1
                have HM1 := Lib.hid hm1
                have HPN := Lib.hid (plain_any ⟨o.fc, o.fn, o.tc, o.tn, o.bs⟩ (.slice Au nu cu) W1 ((HRU.out W1 hp1.old)))
                have HW1 := Lib.hid hW1
                have HB1 := Lib.hid hb1
                clear hp1 hm1 hW1 hb1
                go_upto_region 21 with (first
                  | (guard_target = wpList _ _ _ (Oper.mk _ (.load 29 (.tmp 74)) _ _ _ _ :: _) _ _; refine wpList_load_runT (by rfl) 29 _ rfl (.pointer (some ⟨g6, 2, none⟩)) (.agg #[.bool o.fc, .int .i64 o.fn]) rfl (HPF.out _ _ k6) ?_)
                  | (guard_target = wpList _ _ _ (Oper.mk _ (.load 29 (.tmp 76)) _ _ _ _ :: _) _ _; refine wpList_load_runT (by rfl) 29 _ rfl (.pointer (some ⟨g6, 4, none⟩)) (.agg #[.bool o.tc, .int .i64 o.tn]) rfl (HPT.out _ _ k6) ?_)
                  | (guard_target = wpList _ _ _ (Oper.mk _ (.build 48 _) _ _ _ _ :: _) _ _; refine wpList_build rfl _ _ rfl (mail_some _ _ _ _ _ _ _) ?_)
                  | (guard_target = wpList _ _ _ (Oper.mk _ (.store 48 _ _) _ _ _ _ :: _) _ _; refine wpList_store_row rfl 48 _ _ rfl W0.heap.size (mC ⟨o.fc, o.fn, o.tc, o.tn, o.bs⟩ (.slice Au nu cu)).toArray rfl (mail_builtV ⟨o.fc, o.fn, o.tc, o.tn, o.bs⟩ Au nu cu) 48 _ (heap_alloc_new W0 _) (by kernel_rfl) rfl (mail_all rfl) ?_; rw [World.setRow_alloc_new, HW1.out]))
                clear k6 c47
                have m1 := HM1.out
                go_upto_region 22 with (first
                  | (guard_target = wpList _ _ _ (Oper.mk _ (.load 48 _) _ _ _ _ :: _) _ _; refine wpList_load_row rfl 48 _ rfl W0.heap.size rfl 48 _ (0, 0) _ m1 Try.underlying48 rfl (by kernel_rfl) ?_)
                  | (go_at_call 9; refine HPN.out.mono ?_; rintro e W3 ⟨rfl, hb3⟩; have m3 := m1.below hb3 m1.lt; have HPP := Lib.hid ((HP1.out.below hb3).refPut ⟨o.fc, o.fn, o.tc, o.tn, o.bs⟩); clear hb3)
                  | (go_at_call 8; refine HPP.out.mono ?_; rintro e W4 ⟨v4, rfl, hp4, hb4⟩; have HM4 := Lib.hid (m3.below hb4 m3.lt); have HP4 := Lib.hid hp4; have HS4 := Lib.hid (hp4.put ⟨o.fc, o.fn, o.tc, o.tn, o.bs⟩ (.slice Au nu cu) (HRU.out W4 hp4.old)); clear hp4 hb4))
                clear m1 m3
                have m4 := HM4.out
                go_wp2_with (first
                  | (guard_target = wpList _ _ _ (Oper.mk _ (.load 48 _) _ _ _ _ :: _) _ _; refine wpList_load_row rfl 48 _ rfl W0.heap.size rfl 48 _ (0, 0) _ m4 Try.underlying48 rfl (by kernel_rfl) ?_)
                  | (go_at_call 11; refine HS4.out.mono ?_; rintro e W5 ⟨rfl, hp5, ht5⟩))
                go_meet
                exact ⟨_, _, rfl, rfl, hp5.weak fun b hb => hb.elim⟩
              · have b1 : (o.kind == 1) = false := by simpa using k1
                by_cases k2 : o.kind = 2
                · have b2 : (o.kind == 2) = true := by simpa using k2
                  clear k0 k1 k2
                  have HP1 := Lib.hid (HP0.out.own (.cells (refC zeroM).toArray 45))
                  obtain ⟨W1, hW1⟩ : ∃ z, W0.alloc (.cells (refC zeroM).toArray 45) = z := ⟨_, rfl⟩
                  have hb1 : Below W0.heap.size W0 W1 := by rw [← hW1]; exact (Below.refl _ _).alloc (Nat.le_refl _) _
                  obtain ⟨gw, hgw⟩ : ∃ z, W0.heap.size = z := ⟨_, rfl⟩
                  have hw1 : Blk W1 gw 45 (refC zeroM).toArray := by rw [← hW1, ← hgw]; exact Blk.newAt _ _ rfl rfl
                  have HW1 : Hid (W0.alloc (.cells #[.bool false, .bool false, .int .i64 0, .int .i64 0, .string ⟨#[]⟩] 45) = W1) := Lib.hid hW1
                  rw [hW1, hgw] at HP1
                  have HV1 := Lib.hid hw1
                  have HGW : Hid (g6 ≠ gw) := Lib.hid (by have := HK6.out.lt; omega)
                  have HK1 := Lib.hid (HK6.out.below hb1 HK6.out.lt)
                  have HTK := Lib.hid (HP1.out.refTake o.pos)
                  obtain ⟨m, hm⟩ : ∃ m, atM l o.pos = m := ⟨_, rfl⟩
                  obtain ⟨cc, hcc⟩ : ∃ c, codeM l o.pos = c := ⟨_, rfl⟩
                  obtain ⟨lt, hlt⟩ : ∃ t, takeM l o.pos = t := ⟨_, rfl⟩
                  rw [hm, hcc, hlt] at HTK
                  have HMC := Lib.hid (And.intro hm (And.intro hcc hlt))
                  have HGW1 := Lib.hid hgw
                  clear hb1 hw1 hW1 hm hcc hlt hgw
                  go_upto_region 25 with fail
                  rw [HW1.out, HGW1.out]
                  have c1 := HC1.out _ _ HK1.out
                  go_upto_region 26 with (first
                    | (go_at_call 12; refine HTK.out.mono ?_; rintro e W2 ⟨v2, rfl, hp2, hb2⟩; have HV2 := Lib.hid (HV1.out.below hb2 HV1.out.lt); have HK2 := Lib.hid (HK1.out.below hb2 HK1.out.lt); have HP2 := Lib.hid hp2; clear hp2 hb2)
                    | (guard_target = wpList _ _ _ (Oper.mk _ (.store 45 _ _) _ _ _ _ :: _) _ _; refine wpList_store_row rfl 45 _ _ rfl gw (refC m).toArray rfl rfl 45 _ HV2.out (by kernel_rfl) rfl (ref_all m) ?_))
                  clear c1
                  obtain ⟨W3, hW3⟩ : ∃ z, W2.setRow gw (refC m).toArray = z := ⟨_, rfl⟩
                  have hp3 : PLQ w g (fun b => b = g6 ∨ b = gw) v2 l lt W3 := by rw [← hW3]; exact HP2.out.set (.inr rfl) _
                  have ht3 : Turn (fun i => i = gw) W2 W3 := by rw [← hW3]; exact Turn.setRow (S := fun i => i = gw) (Turn.refl _ _) (fun _ => rfl) _
                  have hv3 : Blk W3 gw 45 (refC m).toArray := by rw [← hW3]; exact HV2.out.setRow _
                  have hk3 := ht3.blk HK2.out HGW.out
                  rw [hW3]
                  have HP4 := Lib.hid (hp3.own (.cells (mC zeroM (.slice none 0 0)).toArray 48))
                  obtain ⟨W4, hW4⟩ : ∃ z, W3.alloc (.cells (mC zeroM (.slice none 0 0)).toArray 48) = z := ⟨_, rfl⟩
                  have hb4 : Below W3.heap.size W3 W4 := by rw [← hW4]; exact (Below.refl _ _).alloc (Nat.le_refl _) _
                  obtain ⟨gg, hgg⟩ : ∃ z, W3.heap.size = z := ⟨_, rfl⟩
                  have hg4 : Blk W4 gg 48 (mC zeroM (.slice none 0 0)).toArray := by rw [← hW4, ← hgg]; exact Blk.newAt _ _ rfl rfl
                  have HW4 : Hid (W3.alloc (.cells #[.bool false, .int .i64 0, .bool false, .int .i64 0, .slice none 0 0] 48) = W4) := Lib.hid hW4
                  rw [hW4, hgg] at HP4
                  have HK4 := Lib.hid (hk3.below hb4 hk3.lt)
                  have HV4 := Lib.hid (hv3.below hb4 hv3.lt)
                  have HG4 := Lib.hid hg4
                  have HGN : Hid (gw ≠ gg) := Lib.hid (by have := hv3.lt; omega)
                  have HTA := Lib.hid (HP4.out.take o.pos)
                  rw [HMC.out.1, HMC.out.2.1, HMC.out.2.2] at HTA
                  have HOFF := Lib.hid (And.intro (HP4.out.off (b := gw) (.inl (.inr rfl))) (HP4.out.off (b := gg) (.inr rfl)))
                  have HGG1 := Lib.hid hgg
                  clear hp3 ht3 hv3 hk3 hb4 hg4 hW3 hW4 hgg
                  go_upto_region 27 with fail
                  rw [HW4.out, HGG1.out]
                  have c1 := HC1.out _ _ HK4.out
                  go_upto_region 28 with (first
                    | (go_at_call 13; refine HTA.out.mono ?_; rintro e W5 ⟨u5, rfl, hr5, hp5, ht5⟩; obtain ⟨Ag, cg, rfl⟩ := hr5.shape; have HR5 := Lib.hid hr5; have HP5 := Lib.hid hp5; have HV5 := Lib.hid (ht5.blk HV4.out HOFF.out.1); have HG5 := Lib.hid (ht5.blk HG4.out HOFF.out.2); have HS5 := Lib.hid ht5.size; clear hr5 hp5 ht5)
                    | (guard_target = wpList _ _ _ (Oper.mk _ (.store 48 _ _) _ _ _ _ :: _) _ _; refine wpList_store_row rfl 48 _ _ rfl gg (mC m (.slice Ag m.bs.length cg)).toArray rfl rfl 48 _ HG5.out (by kernel_rfl) rfl (mail_all rfl) ?_))
                  clear c1
                  obtain ⟨ng, hng⟩ : ∃ n, m.bs.length = n := ⟨_, rfl⟩
                  obtain ⟨W6, hW6⟩ : ∃ z, W5.setRow gg (mC m (.slice Ag m.bs.length cg)).toArray = z := ⟨_, rfl⟩
                  have hp6 : PLQ w g (fun b => (b = g6 ∨ b = gw) ∨ b = gg) v2 lt lt W6 := by rw [← hW6]; exact HP5.out.set (.inr rfl) _
                  have ht6 : Turn (fun i => i = gg) W5 W6 := by rw [← hW6]; exact Turn.setRow (S := fun i => i = gg) (Turn.refl _ _) (fun _ => rfl) _
                  have hv6 := ht6.blk HV5.out HGN.out
                  have hg6 : Blk W6 gg 48 (mC m (.slice Ag m.bs.length cg)).toArray := by rw [← hW6]; exact HG5.out.setRow _
                  have hr6 : RdB W6 (fun b => b < W6.heap.size) (.slice Ag m.bs.length cg) m.bs := (HR5.out.turn ht6 fun b hb e => by have := HG4.out.lt; omega).mono fun b hb => Nat.lt_of_lt_of_le hb.2 ht6.size
                  have HPN : Hid (∀ W, Below W6.heap.size W6 W → Calls Try.prog 9 #[mailV m (.slice Ag m.bs.length cg)] W fun e w' => e = .returned (refV m) ∧ Below W.heap.size W w') := Lib.hid fun W hb => plain_any m _ W ((hr6.kept fun a x ha h => (hb.cell (p := a) ha).trans h).mono fun b h => Nat.lt_of_lt_of_le h hb.size)
                  have HLW : Hid (∀ W, Below W6.heap.size W6 W → (Instr.loadAt 45 (.pointer (some ⟨gw, 0, none⟩))).run Try.prog W = .ok (refV m) W) := Lib.hid fun W hb => load_refP (hv6.below hb hv6.lt)
                  have HLG : Hid (∀ W, Below W6.heap.size W6 W → (Instr.loadAt 48 (.pointer (some ⟨gg, 0, none⟩))).run Try.prog W = .ok (mailV m (.slice Ag m.bs.length cg)) W) := Lib.hid fun W hb => load_mailP (hg6.below hb hg6.lt)
                  have HP6 := Lib.hid hp6
                  rw [hW6]
                  rw [hng] at HPN HLG ⊢
                  clear hp6 ht6 hv6 hg6 hr6 hW6 hng
                  have hbX : Below W6.heap.size W6 W6.drew := (Below.refl _ _).drew
                  refine wp_region_held_drew (S := fun W' => Below W6.heap.size W6 W') (by kernel_rfl) ?_ (fun hHeld => ?_)
                  · exact hbX
                  refine wpAnyH_take (i := 0) (oi := ⟨some 106, _, _, _, _, _⟩) (v := (mailV m (.slice Ag ng cg))) rfl (by kernel_rfl) (by kernel_rfl) (by kernel_rfl) (fun _ _ _ h => h) (yields_loadA (by rfl) 48 _ rfl (.pointer (some ⟨gg, 0, none⟩)) rfl _ (fun W' hS => HLG.out W' hS)) (by assumption) ?_
                  try simp only [Act.put, List.setIfInBounds_toArray, List.set_cons_zero, List.set_cons_succ]
                  refine wpAnyH_take (i := 2) (oi := ⟨some 108, _, _, _, _, _⟩) (v := (refV m)) rfl (by kernel_rfl) (by kernel_rfl) (by kernel_rfl) (fun _ _ _ h => h) (yields_loadA (by rfl) 45 _ rfl (.pointer (some ⟨gw, 0, none⟩)) rfl _ (fun W' hS => HLW.out W' hS)) (by assumption) ?_
                  try simp only [Act.put, List.setIfInBounds_toArray, List.set_cons_zero, List.set_cons_succ]
                  refine wpAnyH_ready (rs := [1]) (by kernel_rfl) (by simp) ?_
                  refine (AllReadyH.cons (o := ⟨some 107, _, _, _, _, _⟩) rfl (fun K hK => ?_) AllReadyH.nil)
                  (try rw [if_pos (by rfl)])
                  go_simp
                  go_at_call 9
                  refine (HPN.out _ hbX).mono ?_
                  rintro e Wn ⟨rfl, hbn⟩
                  replace hbX := hbX.trans (hbn.mono hbX.size)
                  try dsimp only
                  refine hK.out _ _ (hbX) (fun hHeld => ?_)
                  clear hK K
                  try simp only [Act.put, List.setIfInBounds_toArray, List.set_cons_zero, List.set_cons_succ]
                  refine wpAnyH_take (i := 3) (oi := ⟨some 109, _, _, _, _, _⟩) (v := (.bool false)) rfl (by kernel_rfl) (by kernel_rfl) (by kernel_rfl) (fun _ _ _ h => h) (yields_binA (by rfl) .neq _ _ _ _ rfl (refV m) (refV m) rfl rfl _ (fun w' => guard_refP _ _ m w') (fun w' => neq_ref m w')) (by assumption) ?_
                  try simp only [Act.put, List.setIfInBounds_toArray, List.set_cons_zero, List.set_cons_succ]
                  refine wpAnyH_done (by kernel_rfl) ?_ _
                  have HXX := Lib.hid hbX
                  clear hbX
                  go_wp2
                  go_meet
                  exact ⟨_, _, rfl, rfl, (HP6.out.below HXX.out).weak fun b hb => hb.elim⟩
                · have b2 : (o.kind == 2) = false := by simpa using k2
                  by_cases k3 : o.kind = 3
                  · have b3 : (o.kind == 3) = true := by simpa using k3
                    clear k0 k1 k2 k3
                    have c1 := HC1.out _ _ HK6.out
                    have HTW := Lib.hid (HP0.out.refTwice o.pos)
                    go_upto_region 32 with (go_at_call 14; refine HTW.out.mono ?_; rintro e W2 ⟨v2, rfl, hp2, hb2⟩; have HK2 := Lib.hid (HK6.out.below hb2 HK6.out.lt); have HTX := Lib.hid (hp2.twice o.pos); clear hp2 hb2)
                    clear c1
                    have c1 := HC1.out _ _ HK2.out
                    go_wp2_with (go_at_call 15; refine HTX.out.mono ?_; rintro e W3 ⟨rfl, hp3, ht3⟩)
                    go_meet
                    exact ⟨_, _, rfl, rfl, hp3.weak fun b hb => hb.elim⟩
                  · have b3 : (o.kind == 3) = false := by simpa using k3
                    clear k0 k1 k2 k3
                    go_wp2
                    go_meet
                    exact ⟨l, 0, rfl, rfl, HP0.out.weak fun b hb => hb.elim⟩
          case rest =>
            obtain ⟨l2, code, rfl, rfl, hp⟩ := hcut
            have HP := Lib.hid hp
            have HLEN := Lib.hid hp.len
            have HML := Lib.hid hp.mails
            obtain ⟨Ar, cr, rfl⟩ := hp.form
            have h600 := hp.few
            obtain ⟨N, hN⟩ : ∃ N, l2.length = N := ⟨_, rfl⟩
            rw [hN] at HLEN h600
            rw [hN]
            have HN := Lib.hid hN
            have e8 : (code != code) = false := by simp
            clear hp hN
            go_upto_region 36 with (first
              | (go_at_call 16; refine HLEN.out.mono ?_; rintro e Wn ⟨rfl, rfl⟩)
              | (go_at_call 17; refine HML.out.mono ?_; rintro e W2 ⟨v14, rfl, hr2, hb2⟩))
            obtain ⟨Am, cm, rfl, _⟩ := hr2.form
            rw [HN.out] at hr2
            rw [HN.out]
            have HR2 := Lib.hid hr2
            have HB2 := Lib.hid hb2
            have HPQ := Lib.hid (HP.out.below hb2)
            clear hr2 hb2 e8
            go_wp2_with fail
            go_loopw [139] (fun i wx => ∃ q : Nat, q ≤ N ∧ i = .int .i64 (q : Int) ∧ Below W2.heap.size W2 wx) (fun i _ => N - (intOf i).toNat)
            case atStart => exact ⟨0, Nat.zero_le _, rfl, Below.refl _ _⟩
            case round =>
              obtain ⟨q, hq, rfl, hbx⟩ := hrel
              obtain ⟨wx, hwx⟩ : ∃ z, z = wr := ⟨_, rfl⟩
              subst hwx
              by_cases hqn : q < N
              · have hqi : (q : Int) < (N : Int) := by omega
                have hg1 : decide ((N : Int) ≤ (q : Int)) = false := decide_eq_false (by omega)
                have hg2 : decide (N ≤ q) = false := decide_eq_false (by omega)
                obtain ⟨m, hm⟩ : ∃ m, l2[q]? = some m := ⟨_, List.getElem?_eq_getElem (by rw [HN.out]; exact hqn)⟩
                obtain ⟨adm, cm2, uq, e1, hok1, hu1, hld1⟩ := HR2.out.here hm
                injection e1 with e1 e2 e3
                subst e1
                clear e2 e3 cm2
                obtain ⟨Aq, cq, rfl⟩ := hu1.shape
                obtain ⟨adr, cr2, e4, hldr⟩ := HPQ.out.refHere hm
                injection e4 with e4 e5 e6
                subst e4
                clear e5 e6 cr2
                have hix1 := fun w' => index_mail adm N cm q hqn w'
                have hix2 := fun w' => index_ref adr N cr q hqn w'
                have HL1 := Lib.hid (hld1 wx fun a x ha hx => (hbx.cell (p := a) ha.2).trans hx)
                obtain ⟨nq, hnq⟩ : ∃ n, m.bs.length = n := ⟨_, rfl⟩
                rw [hnq] at hu1 HL1
                obtain ⟨W3, hW3⟩ : ∃ z, wx.alloc (.cells (mC m (.slice Aq nq cq)).toArray 48) = z := ⟨_, rfl⟩
                have hb3 : Below wx.heap.size wx W3 := by rw [← hW3]; exact (Below.refl _ _).alloc (Nat.le_refl _) _
                obtain ⟨b16, hb16⟩ : ∃ z, wx.heap.size = z := ⟨_, rfl⟩
                have hk3 : Blk W3 b16 48 (mC m (.slice Aq nq cq)).toArray := by rw [← hW3, ← hb16]; exact Blk.newAt _ _ rfl rfl
                have hb23 := hbx.trans (hb3.mono hbx.size)
                have HB3 := Lib.hid hb23
                have HPN : Hid (∀ W, Below W3.heap.size W3 W → Calls Try.prog 9 #[mailV m (.slice Aq nq cq)] W fun e w' => e = .returned (refV m) ∧ Below W.heap.size W w') := Lib.hid fun W hb => plain_any m _ W ((hu1.kept fun a x ha h => ((hb23.trans (hb.mono hb23.size)).cell (p := a) ha.2).trans h).mono fun b h => Nat.lt_of_lt_of_le h.2 (Nat.le_trans hb23.size hb.size))
                have HLR : Hid (∀ W, Below W3.heap.size W3 W → (Instr.loadAt 45 (.pointer (some (adr.add (q * 5))))).run Try.prog W = .ok (refV m) W) := Lib.hid fun W hb => hldr W (hb23.trans (hb.mono hb23.size))
                have HLG : Hid (∀ W, Below W3.heap.size W3 W → (Instr.loadAt 48 (.pointer (some ⟨b16, 0, none⟩))).run Try.prog W = .ok (mailV m (.slice Aq nq cq)) W) := Lib.hid fun W hb => load_mailP (hk3.below hb hk3.lt)
                have HW3 := Lib.hid hW3
                have HB16 := Lib.hid hb16
                clear hb3 hk3 hb23 hu1 hld1 hldr hok1 hm hbx hW3 hnq hb16
                go_upto_region 41 with (first
                  | (guard_target = wpList _ _ _ (Oper.mk _ (.load 48 _) _ _ _ _ :: _) _ _; refine wpList_load_runT (by rfl) 48 _ rfl (.pointer (some (adm.add (q * 5)))) (mailV m (.slice Aq nq cq)) rfl HL1.out ?_)
                  | (guard_target = wpList _ _ _ (Oper.mk _ (.store 48 _ _) _ _ _ _ :: _) _ _; refine wpList_store_row rfl 48 _ _ rfl wx.heap.size (mC m (.slice Aq nq cq)).toArray rfl rfl 48 _ (heap_alloc_new wx _) (by kernel_rfl) rfl (mail_all rfl) ?_; rw [World.setRow_alloc_new, HW3.out]))
                rw [HB16.out]
                clear hix1
                have hbX : Below W3.heap.size W3 W3.drew := (Below.refl _ _).drew
                refine wp_region_held_drew (S := fun W' => Below W3.heap.size W3 W') (by kernel_rfl) ?_ (fun hHeld => ?_)
                · exact hbX
                refine wpAnyH_take (i := 0) (oi := ⟨some 144, _, _, _, _, _⟩) (v := (mailV m (.slice Aq nq cq))) rfl (by kernel_rfl) (by kernel_rfl) (by kernel_rfl) (fun _ _ _ h => h) (yields_loadA (by rfl) 48 _ rfl (.pointer (some ⟨b16, 0, none⟩)) rfl _ (fun W' hS => HLG.out W' hS)) (by assumption) ?_
                try simp only [Act.put, List.setIfInBounds_toArray, List.set_cons_zero, List.set_cons_succ]
                refine wpAnyH_take (i := 2) (oi := ⟨some 146, _, _, _, _, _⟩) (v := ?_) rfl (by kernel_rfl) (by kernel_rfl) (by kernel_rfl) (fun _ _ _ h => h) (Or.inl ⟨by rfl, ?_⟩) (by assumption) ?_
                rotate_left
                · intro w hSw; (try dsimp only at hSw); go_simp; try (with_reducible rfl)
                rotate_left 0
                try simp only [Act.put, List.setIfInBounds_toArray, List.set_cons_zero, List.set_cons_succ]
                refine wpAnyH_take (i := 3) (oi := ⟨some 147, _, _, _, _, _⟩) (v := ?_) rfl (by kernel_rfl) (by kernel_rfl) (by kernel_rfl) (fun _ _ _ h => h) (Or.inl ⟨by rfl, ?_⟩) (by assumption) ?_
                rotate_left
                · intro w hSw; (try dsimp only at hSw); go_simp; try (with_reducible rfl)
                rotate_left 0
                try simp only [Act.put, List.setIfInBounds_toArray, List.set_cons_zero, List.set_cons_succ]
                refine wpAnyH_take (i := 4) (oi := ⟨some 148, _, _, _, _, _⟩) (v := ?_) rfl (by kernel_rfl) (by kernel_rfl) (by kernel_rfl) (fun _ _ _ h => h) (Or.inl ⟨by rfl, ?_⟩) (by assumption) ?_
                rotate_left
                · intro w hSw; (try dsimp only at hSw); go_simp; try (with_reducible rfl)
                rotate_left 0
                try simp only [Act.put, List.setIfInBounds_toArray, List.set_cons_zero, List.set_cons_succ]
                refine wpAnyH_take (i := 5) (oi := ⟨some 149, _, _, _, _, _⟩) (v := (refV m)) rfl (by kernel_rfl) (by kernel_rfl) (by kernel_rfl) (fun _ _ _ h => h) (yields_loadA (by rfl) 45 _ rfl (.pointer (some (adr.add (q * 5)))) rfl _ (fun W' hS => HLR.out W' hS)) (by assumption) ?_
                try simp only [Act.put, List.setIfInBounds_toArray, List.set_cons_zero, List.set_cons_succ]
                refine wpAnyH_ready (rs := [1]) (by kernel_rfl) (by simp) ?_
                refine (AllReadyH.cons (o := ⟨some 145, _, _, _, _, _⟩) rfl (fun K hK => ?_) AllReadyH.nil)
                (try rw [if_pos (by rfl)])
                go_simp
                go_at_call 9
                refine (HPN.out _ hbX).mono ?_
                rintro e Wn ⟨rfl, hbn⟩
                replace hbX := hbX.trans (hbn.mono hbX.size)
                try dsimp only
                refine hK.out _ _ (hbX) (fun hHeld => ?_)
                clear hK K
                try simp only [Act.put, List.setIfInBounds_toArray, List.set_cons_zero, List.set_cons_succ]
                refine wpAnyH_take (i := 6) (oi := ⟨some 150, _, _, _, _, _⟩) (v := (.bool false)) rfl (by kernel_rfl) (by kernel_rfl) (by kernel_rfl) (fun _ _ _ h => h) (yields_binA (by rfl) .neq _ _ _ _ rfl (refV m) (refV m) rfl rfl _ (fun w' => guard_refP _ _ m w') (fun w' => neq_ref m w')) (by assumption) ?_
                try simp only [Act.put, List.setIfInBounds_toArray, List.set_cons_zero, List.set_cons_succ]
                refine wpAnyH_done (by kernel_rfl) ?_ _
                have HXX := Lib.hid (HB3.out.trans (hbX.mono HB3.out.size))
                clear hbX
                go_wp2
                go_roundw
                · exact ⟨q + 1, by omega, by go_num, HXX.out⟩
                · simp [intOf]
                  omega
              · obtain rfl : q = N := by omega
                have HX := Lib.hid hbx
                clear hbx
                go_wp2
                go_roundw
                · exact ⟨k + 1, l2, _, _, _, by omega, rfl, by go_num, by have h := HPQ.out.below HX.out; rw [HN.out] at h; exact h⟩
                · simp [intOf]
                  omega
    · obtain rfl : k = n := by omega
      have HX := Lib.hid hrel
      clear hrel
      go_wp2
      go_ret
      exact ⟨rfl, HX.out.old⟩
end Go.Proofs.Ytekakelkjnhehaa
