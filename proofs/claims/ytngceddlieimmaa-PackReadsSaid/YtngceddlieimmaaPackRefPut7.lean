/-
  The reference's put, for the bytes of Data: for every message that reads, any string that isn't empty, in whatever memory. Besides: a string's bytes in new memory.
-/
import Derived.Test.YtngceddlieimmaaPackRefPut
import Derived.Deep.AppendSrc
import Derived.Lib.SlBuf
namespace Go.Proofs.Ytngceddlieimmaa
open Go Go.RowKit PackMath

theorem rd_bytes_of (L : List UInt8) (hL : L.length ≤ 1099511627776) (w : World) : ∃ A c w', (convert 9 24 (.string ⟨L.toArray⟩)).run Try.prog w = .ok (.slice A L.length c) w' ∧ RdB w' (fun b => w.heap.size ≤ b ∧ b < w'.heap.size) (.slice A L.length c) L ∧ Below w.heap.size w w' := by
  have hrun := run_bytes_of_string (P := Try.prog) w 9 24 5 ⟨L.toArray⟩ Try.underlying9 Try.underlying24 Try.underlying5
  have hsz : (⟨L.toArray⟩ : ByteArray).size = L.length := by simp [ByteArray.size]
  rw [hsz] at hrun
  have hge := grownCap_ge w L.length 0 5
  obtain ⟨cap, hcap⟩ : ∃ cap, grownCap w L.length 0 5 = cap := ⟨_, rfl⟩
  rw [hcap] at hrun hge
  obtain ⟨C, hC⟩ : ∃ C, bytesRow ⟨L.toArray⟩ cap = C := ⟨_, rfl⟩
  rw [hC] at hrun
  have hg : (w.drew.alloc (.cells C 5 (C.size, C.size + 1))).heap[w.heap.size]? = some (.cells C 5 (C.size, C.size + 1)) := heap_alloc_new w.drew _
  obtain ⟨w', hw'⟩ : ∃ w', (w.drew.alloc (.cells C 5 (C.size, C.size + 1))) = w' := ⟨_, rfl⟩
  have hszw : w'.heap.size = w.heap.size + 1 := by rw [← hw']; simp
  have hbw : Below w.heap.size w w' := hw' ▸ (Below.refl _ _).drew.alloc (Nat.le_refl _) _
  rw [hw'] at hrun hg
  have hcell : ∀ j, w'.cell? ⟨w.heap.size, j, none⟩ = C[j]? := fun j => by unfold World.cell?; simp only [hg]; simp
  refine ⟨_, cap, w', hrun, rdB_cells (n := L.length) (fun j hj => ?_) rfl hge (by omega) ⟨Nat.le_refl _, by omega⟩, hbw⟩
  rw [hcell, ← hC]
  unfold bytesRow
  rw [Array.getElem?_append_left (by simpa using hj)]
  simp [List.getD_eq_getElem?_getD, List.getElem?_eq_getElem hj, bv]
section
variable {ops : Array Oper} {rest : List Oper} {o : Oper} {a : Act} {w : World} {Q : Exit → Act → World → Prop}
theorem wpList_bytes_of (hgd : o.guard = none) (x : Operand) (ho : o.op = .convert 9 24 x) (S : ByteArray) (hx : a.eval x = .string S) (L : List UInt8) (hS : ⟨L.toArray⟩ = S) (hL : L.length ≤ 1099511627776)
    (h : ∀ A c w', RdB w' (fun b => w.heap.size ≤ b ∧ b < w'.heap.size) (.slice A L.length c) L → Below w.heap.size w w' → wpList Try.prog ops Q rest (a.put o.dst (.slice A L.length c)) w') : wpList Try.prog ops Q (o :: rest) a w := by
  subst hS
  obtain ⟨A, c, w', hrun, hr, hb⟩ := rd_bytes_of L hL w
  refine wpList_plain hgd fun K hK => ?_
  unfold Oper.wp
  simp [execOp, ho, hx, hrun, Result.andThen, Oper.upon]
  exact hK _ _ (h A c w' hr hb)
end
theorem ref_set38 (r : Raw) (d i l v : Value) (bs : List UInt8) : (msgA r d i l).setIfInBounds 38 v = msgA { r with data := bs } v i l := by
  rw [msgA, set_row _ _ _ _ (by omega)]
  refine arr_congr fun j hj => ?_
  match j with
  | 0 => rfl
  | 1 => rfl
  | 2 => rfl
  | 3 => rfl
  | 4 => rfl
  | 5 => rfl
  | m + 6 =>
    show (if m + 6 = 38 then v else if m + 6 < 38 then bv (r.id (m + 6 - 6)) else if m + 6 = 38 then d else if m + 6 = 39 then i else l) = if m + 6 < 38 then bv (r.id (m + 6 - 6)) else if m + 6 = 38 then v else if m + 6 = 39 then i else l
    by_cases h : m + 6 = 38
    · rw [if_pos h, if_neg (by omega), if_pos h]
    · rw [if_neg h]
      by_cases h2 : m + 6 < 38
      · rw [if_pos h2, if_pos h2]
      · rw [if_neg h2, if_neg h2, if_neg h, if_neg h]
set_option maxRecDepth 100000 in
set_option maxHeartbeats 4000000 in
theorem refPut7 (r : Raw) (d i l : Value) (bs : List UInt8) (hne : bs ≠ []) (hm : bs.length ≤ 1099511627776) (w : World) (hr : RdR w (fun b => b < w.heap.size) r d i l) :
    Calls Try.prog 25 #[.agg (msgA r d i l), .int .i64 7, .string ⟨bs.toArray⟩] w fun e w' => (∃ d', e = .returned (.tuple #[.agg (msgA { r with data := bs } d' i l), .int .i64 0]) ∧ RdB w' (fresh w w') d' bs ∧ (msgA { r with data := bs } d' i l).all (·.oneCell') = true) ∧ Below w.heap.size w w' := by
  have hem := str_some hne
  have hs : (msgA r d i l).size = 41 := arr_size _ _
  have hset := fun v => ref_set38 r d i l v bs
  have hcv : (msgA r d i l)[38]? = some d := by rw [msgA, arr_get]; rfl
  obtain ⟨S, hS⟩ : ∃ S : ByteArray, ⟨bs.toArray⟩ = S := ⟨_, rfl⟩
  obtain ⟨Z, hZ⟩ : ∃ Z, msgA (zeroRaw 0) nilS nilS nilS = Z := ⟨_, rfl⟩
  have hzs : Z.size = 41 := by rw [← hZ]; exact arr_size _ _
  have HZ := Lib.hid hZ
  have HZS := Lib.hid hzs
  have RD : Hid (∀ W, Below w.heap.size w W → ∀ A c, RdB W (fun b => b < W.heap.size) (.slice A bs.length c) bs → RdR W (fun b => b < W.heap.size) { r with data := bs } (.slice A bs.length c) i l) := Lib.hid fun W hb A c h => by
    have h2 := (hr.below hb).mono fun b hb' => Nat.lt_of_lt_of_le hb' hb.size
    exact ⟨h, h2.ids, h2.list⟩
  have hs1 : ∀ v, (msgA { r with data := bs } v i l).size = 41 := fun v => arr_size _ _
  obtain ⟨M, hM⟩ : ∃ M, msgA r d i l = M := ⟨_, rfl⟩
  obtain ⟨n, hn⟩ : ∃ n, bs.length = n := ⟨_, rfl⟩
  rw [hM] at hs hset hcv ⊢
  rw [hS] at hem ⊢
  rw [hn] at RD hm
  have HSZ := Lib.hid hs
  have HSET := Lib.hid hset
  have HS1 := Lib.hid hs1
  have HCV := Lib.hid hcv
  have HS := Lib.hid (And.intro hS (And.intro hn hm))
  clear hs hset hs1 hcv hS hn hM hZ hzs hr hne hm
  go_enter Try.func25, Try.ntmps25
  go_wp2_with (first
    | (guard_target = wpList _ _ _ (Oper.mk _ (.convert _ _ _) _ _ _ _ :: _) _ _; refine wpList_bytes_of rfl _ rfl S rfl bs HS.out.1 (by have := HS.out; omega) ?_; rw [HS.out.2.1]; intro A c w1 hrd hb1; have hx1 : Blk w1 w.heap.size 28 M := ((Blk.new w 28 M).alloc _).below hb1 (by simp; omega); have hR1 : Blk w1 (w.heap.size + 1) 28 Z := (Blk.newAt _ _ (by simp) (by rw [← HZ.out]; kernel_rfl)).below hb1 (by simp); have hw1 : Below w.heap.size w w1 := (((Below.refl _ w).alloc (Nat.le_refl _) _).alloc (by simp) _).trans (hb1.mono (by simp; omega)); have hq := RD.out w1 hw1 A c (hrd.mono fun b hb => hb.2); have ha1 := msg_all hq; have hs1 := HS1.out (.slice A n c); have hx2 : Blk (w1.setCell ⟨w.heap.size, 38, none⟩ (.slice A n c)) w.heap.size 28 (msgA { r with data := bs } (.slice A n c) i l) := (hx1.store 38 _).same (HSET.out _); have hR2 : Blk (w1.setCell ⟨w.heap.size, 38, none⟩ (.slice A n c)) (w.heap.size + 1) 28 Z := hR1.far (by show w.heap.size + 1 ≠ w.heap.size; omega) _; have kc : w1.cell? ⟨w.heap.size, 38, none⟩ = some d := (hx1.cell 38).trans HCV.out; have kf := hx1.frozen 38; have hw2 : Below w.heap.size w (w1.setCell ⟨w.heap.size, 38, none⟩ (.slice A n c)) := hw1.setCell (Nat.le_refl _) _; have HW2 := Lib.hid hw2; have HRD1 := Lib.hid (And.intro hrd hb1.size); have HM1 : Hid (∃ X, msgA { r with data := bs } (.slice A n c) i l = X) := Lib.hid ⟨_, rfl⟩; obtain ⟨M1, hM1⟩ := HM1.out; rw [hM1] at ha1 hs1 hx2; have HM2 := Lib.hid hM1; have HA1 := Lib.hid ha1; have HSZ1 := Lib.hid hs1; clear hM1 hq hw1 hw2 hb1 hrd HM1 ha1 hs1)
    | (guard_target = wpList _ _ _ _ _ _; refine wpList_load_row rfl 28 _ rfl w.heap.size rfl 28 M1 (0, 0) _ hx2 Try.underlying28 rfl (by rw [HSZ1.out]; kernel_rfl) ?_)
    | (guard_target = wpList _ _ _ _ _ _; refine wpList_store_arrW rfl 28 _ _ rfl (w.heap.size + 1) M1 rfl rfl 28 _ hR2 (by rw [HSZ1.out]; kernel_rfl) (by rw [HSZ1.out, HZS.out]) HA1.out ?_; intro W9 hS9 hz9 hb9 ho9))
  refine bodyPost_ret (results_cell_tmp (p := 6) (q := 7) rfl _ _ (w.heap.size + 1) 28 _ _ rfl hS9 Try.underlying28 rfl (by rw [HSZ1.out]; kernel_rfl)) rfl ?_
  have hw9 := HW2.out.trans (hb9.mono (by omega))
  have hrd9 : RdB W9 (fresh w W9) (.slice A n c) bs := (HRD1.out.1.kept (W' := W9) fun a x ha h => (World.cell?_of_block ((ho9 a.block (by have := ha.1; simp at this; omega)).trans (Below.heap_setCell w1 ⟨w.heap.size, 38, none⟩ _ _ (by have := ha.1; simp at this; show a.block ≠ w.heap.size; omega)))).trans h).mono fun b hb => ⟨by have := hb.1; simp at this; omega, by have := hb.2; rw [hz9]; simpa [World.setCell] using this⟩
  exact ⟨⟨.slice A n c, by rw [HM2.out]; rfl, hrd9, by rw [HM2.out]; exact HA1.out⟩, hw9⟩
end Go.Proofs.Ytngceddlieimmaa
