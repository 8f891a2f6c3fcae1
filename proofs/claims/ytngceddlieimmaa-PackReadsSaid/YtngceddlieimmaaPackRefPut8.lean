/-
  The reference's put, for the IDs: for every message that reads and has none yet, any string that isn't empty, in whatever memory.
-/
import Derived.Test.YtngceddlieimmaaPackRefPut9
import Derived.Great.BuildSlice
namespace Go.Proofs.Ytngceddlieimmaa
open Go Go.RowKit PackMath

theorem wp_build_id {o : Oper} {a : Act} {w : World} {K : Act → World → Prop} {Q : Exit → Act → World → Prop} (x : Operand) (ho : o.op = .buildSlice 25 1 #[(0, x)]) (f : Nat → UInt8) (hx : a.eval x = .agg (arr 32 fun i => bv (f i)))
    (h : K (a.put o.dst (.slice (some ⟨w.heap.size, 0, none⟩) 1 1)) (w.alloc (.cells (arr 32 fun i => bv (f i)) 23))) : o.wp Try.prog a w K Q := by
  obtain ⟨i0, hi, hz0, hz1, hz2⟩ := info_parts info_id
  refine wp_buildSlice 25 23 1 _ ho (arr 32 fun i => bv (f i)) i0 _ Try.underlying25 hi hz0 (by rw [hz1]; decide) (by rw [hz1]; decide) ?_ h
  rw [hz1]
  simp only [List.map_toArray, List.map_cons, List.map_nil, hx]
  kernel_rfl
theorem app_id {B : Nat} {w : World} (hB : B ≤ w.heap.size) {v : Value} {n : Nat} {xs : List Value} (hown : w.ownsRow B 23 32 v n xs) (f : Nat → UInt8) {g0 : Nat} (hg0 : Blk w g0 23 (arr 32 fun i => bv (f i))) (hn : n ≤ 100000000) :
    ∃ g cap w', (Builtin.append_ #[25, 25] 25 #[v, .slice (some ⟨g0, 0, none⟩) 1 1]).run Try.prog w = .ok (.slice (some ⟨g, 0, none⟩) (n + 1) cap) w' ∧
      w'.ownsRow B 23 32 (.slice (some ⟨g, 0, none⟩) (n + 1) cap) (n + 1) (xs ++ (id32 f).map bv) ∧ w.grownBy w' v.ownBlock := by
  obtain ⟨i0, hi, hz0, hz1, hz2⟩ := info_parts info_id
  obtain ⟨v', w', hrun, hown', hgr, _, _⟩ := run_append_own_at (P := Try.prog) w B 25 25 23 i0 _ 32 32 Try.underlying25 hi hz0 hz1 hz2 (by simp [Value.cells]) (by omega) v n xs hown ⟨g0, 0, none⟩ 1 1 ((id32 f).map bv) (by simp [id32])
    (fun j u hu => by
      have hj : j < 32 := by
        by_cases hj : j < 32
        · exact hj
        · rw [List.getElem?_eq_none (by simp [id32]; omega)] at hu; cases hu
      rw [add_zero_block, hg0.cell, arr_get, if_pos hj, ← hu]
      simp [id32, hj]) (fun u hu => by
      simp only [List.mem_map] at hu
      obtain ⟨b, _, rfl⟩ := hu
      rfl) (by unfold maxLen; omega) (by omega) hB
  rcases ownsRow_forms' hown' with ⟨_, h0⟩ | ⟨g, cap, rfl⟩
  · omega
  · exact ⟨g, cap, w', hrun, hown', hgr⟩
theorem msg_at39 (r : Raw) (d i l : Value) : (msgA r d i l)[39]? = some i := by rw [msgA, arr_get]; rfl
theorem ref_set39 (r : Raw) (d i l v : Value) : (msgA r d i l).setIfInBounds 39 v = msgA r d v l := by
  rw [msgA, set_row _ _ _ _ (by omega)]
  refine arr_congr fun j hj => ?_
  match j with
  | 0 => rfl
  | 1 => rfl
  | 2 => rfl
  | 3 => rfl
  | 4 => rfl
  | 5 => rfl
  | m + 6 =>
    show (if m + 6 = 39 then v else if m + 6 < 38 then bv (r.id (m + 6 - 6)) else if m + 6 = 38 then d else if m + 6 = 39 then i else l) = if m + 6 < 38 then bv (r.id (m + 6 - 6)) else if m + 6 = 38 then d else if m + 6 = 39 then v else l
    by_cases h : m + 6 = 39
    · rw [if_pos h, if_neg (by omega), if_neg (by omega), if_pos h]
    · rw [if_neg h]
      by_cases h2 : m + 6 < 38
      · rw [if_pos h2, if_pos h2]
      · rw [if_neg h2, if_neg h2, if_neg h, if_neg h]
theorem ids_cell (ps : List (Nat → UInt8)) (k i : Nat) (hk : k < ps.length) (hi : i < 32) : ((ps.map id32).flatten.map bv)[32 * k + i]? = some (bv (ps.getD k (fun _ => 0) i)) := by
  have hp : pos (ps.map id32) k = 32 * k := by
    unfold pos
    rw [← List.map_take, ids_len, List.length_take]
    congr 1
    omega
  have hg : (ps.map id32).getD k [] = id32 (ps.getD k fun _ => 0) := by
    rw [List.getD_eq_getElem?_getD, List.getElem?_map, List.getElem?_eq_getElem hk, List.getD_eq_getElem?_getD, List.getElem?_eq_getElem hk]
    rfl
  have h := flat_at (ps.map id32) k i (by simpa using hk) (by rw [hg, id32_length]; exact hi)
  rw [hp, hg, id32_getD _ _ hi] at h
  have hl : 32 * k + i < (ps.map id32).flatten.length := by rw [ids_len]; omega
  rw [List.getD_eq_getElem?_getD, List.getElem?_eq_getElem hl] at h
  rw [List.getElem?_map, List.getElem?_eq_getElem hl, ← h]
  rfl
/-- The IDs so far. -/
structure IdsAt (w0 : World) (r : Raw) (d l : Value) (bs : List UInt8) (Z : Array Value) (m : Nat) (wr : World) (lv : Value) : Prop where
  le : 32 * m ≤ bs.length
  at_ : Blk wr w0.heap.size 28 (msgA r d lv l)
  res : Blk wr (w0.heap.size + 1) 28 Z
  own : wr.ownsRow (w0.heap.size + 2) 23 32 lv m ((((idsOf bs).take m).map id32).flatten.map bv)
  size : w0.heap.size + 2 ≤ wr.heap.size
  below : Below w0.heap.size w0 wr
theorem IdsAt.rdr {w0 : World} {r : Raw} {d l : Value} {bs : List UInt8} {Z : Array Value} {m : Nat} {wr : World} {lv : Value} (h : IdsAt w0 r d l bs Z m wr lv) (hm : bs.length ≤ 100000000)
    (hr : RdR w0 (fun b => b < w0.heap.size) r d nilS l) : RdR wr (fun b => b < wr.heap.size ∧ b ≠ w0.heap.size + 1) { r with ids := (idsOf bs).take m } d lv l := by
  have h2 := (hr.below h.below).mono (ok' := fun b => b < wr.heap.size ∧ b ≠ w0.heap.size + 1) fun b (hb : b < w0.heap.size) => ⟨Nat.lt_of_lt_of_le hb h.below.size, by omega⟩
  have hlen : ((idsOf bs).take m).length = m := by rw [List.length_take, idsOf_length]; have := h.le; omega
  refine ⟨h2.data, ?_, h2.list⟩
  rcases ownsRow_forms' h.own with ⟨rfl, h0⟩ | ⟨g, cap, rfl⟩
  · subst h0
    exact ⟨none, 0, by show _ = Value.slice none ((idsOf bs).take 0).length 0; rw [hlen], by show ((idsOf bs).take 0).length ≤ _; rw [hlen]; omega, fun k hk => absurd hk (by show ¬ k < ((idsOf bs).take 0).length; rw [hlen]; omega)⟩
  · refine ⟨some ⟨g, 0, none⟩, cap, by show _ = Value.slice _ ((idsOf bs).take m).length _; rw [hlen], by show ((idsOf bs).take m).length ≤ _; rw [hlen]; have := h.le; omega, fun k hk => ⟨⟨g, 0, none⟩, rfl, ⟨(h.own.lt g rfl).2, by have := (h.own.lt g rfl).1; show g ≠ w0.heap.size + 1; omega⟩, fun i hi => ?_⟩⟩
    exact h.own.cells (g := g) rfl (32 * k + i) _ (ids_cell _ k i hk hi)
theorem IdsAt.rdi {w0 : World} {r : Raw} {d l : Value} {bs : List UInt8} {Z : Array Value} {m : Nat} {wr : World} {lv : Value} (h : IdsAt w0 r d l bs Z m wr lv) (hm : bs.length ≤ 100000000) :
    ∃ A c, lv = .slice A ((idsOf bs).take m).length c ∧ ((idsOf bs).take m).length ≤ 140737488351232 ∧ RdI wr (fun b => w0.heap.size + 2 ≤ b ∧ b < wr.heap.size) A ((idsOf bs).take m) := by
  have hlen : ((idsOf bs).take m).length = m := by rw [List.length_take, idsOf_length]; have := h.le; omega
  have hle : ((idsOf bs).take m).length ≤ 140737488351232 := by rw [hlen]; have := h.le; omega
  rcases ownsRow_forms' h.own with ⟨rfl, h0⟩ | ⟨g, cap, rfl⟩
  · refine ⟨none, 0, by rw [hlen, h0], hle, fun k hk => absurd hk (by rw [hlen, h0]; omega)⟩
  · exact ⟨some ⟨g, 0, none⟩, cap, by rw [hlen], hle, fun k hk => ⟨⟨g, 0, none⟩, rfl, ⟨(h.own.lt g rfl).1, (h.own.lt g rfl).2⟩, fun i hi => h.own.cells (g := g) rfl (32 * k + i) _ (ids_cell _ k i hk hi)⟩⟩
/-- One ID more. -/
theorem IdsAt.step {w0 : World} {r : Raw} {d l : Value} {bs : List UInt8} {Z : Array Value} {m : Nat} {wr : World} {lv : Value} (h : IdsAt w0 r d l bs Z m wr lv) (hm : 32 * m + 32 ≤ bs.length) (hm8 : bs.length ≤ 100000000) {w1 : World} (hb1 : Below wr.heap.size wr w1) (f : Nat → UInt8) (hf : (fun i => bs.getD (32 * m + i) 0) = f) :
    ∃ g cap w4, (Builtin.append_ #[25, 25] 25 #[lv, .slice (some ⟨w1.heap.size, 0, none⟩) 1 1]).run Try.prog (w1.alloc (.cells (arr 32 fun i => bv (f i)) 23)) = .ok (.slice (some ⟨g, 0, none⟩) (m + 1) cap) w4 ∧
      Blk w4 w0.heap.size 28 (msgA r d lv l) ∧
      IdsAt w0 r d l bs Z (m + 1) (w4.setCell ⟨w0.heap.size, 39, none⟩ (.slice (some ⟨g, 0, none⟩) (m + 1) cap)) (.slice (some ⟨g, 0, none⟩) (m + 1) cap) := by
  have h1s := hb1.size
  have hsz := h.size
  have hb13 : Below wr.heap.size wr (w1.alloc (.cells (arr 32 fun i => bv (f i)) 23)) := hb1.alloc (by omega) _
  have hown3 : (w1.alloc (.cells (arr 32 fun i => bv (f i)) 23)).ownsRow (w0.heap.size + 2) 23 32 lv m ((((idsOf bs).take m).map id32).flatten.map bv) := ownsRow_heap h.own fun b hb => hb13.block b (h.own.lt b hb).2
  obtain ⟨g, cap, w4, hrun, hown4, hgr⟩ := app_id (by simp; omega) hown3 f (Blk.new w1 23 _) (by omega)
  have hbk : ∀ b, lv.ownBlock = some b → w0.heap.size + 2 ≤ b := fun b hb => (h.own.lt b hb).1
  have hat4 := (h.at_.below hb13 h.at_.lt).grown hgr (fun e => by have := hbk _ e.symm; omega)
  have hres4 := (h.res.below hb13 h.res.lt).grown hgr (fun e => by have := hbk _ e.symm; omega)
  have hg2 : w0.heap.size + 2 ≤ g := (hown4.lt g rfl).1
  have h4s := hgr.size
  simp at h4s
  have hset : (w4.setCell ⟨w0.heap.size, 39, none⟩ (.slice (some ⟨g, 0, none⟩) (m + 1) cap)).heap.size = w4.heap.size := by simp [World.setCell]
  have hlen : m < (idsOf bs).length := by rw [idsOf_length]; omega
  refine ⟨g, cap, w4, hrun, hat4, ⟨by omega, (hat4.store 39 _).same (ref_set39 _ _ _ _ _), hres4.far (by show w0.heap.size + 1 ≠ w0.heap.size; omega) _, ?_, by rw [hset]; omega, ?_⟩⟩
  · have e : (((idsOf bs).take (m + 1)).map id32).flatten.map bv = (((idsOf bs).take m).map id32).flatten.map bv ++ (id32 f).map bv := by
      have e2 : id32 ((idsOf bs).getD m fun _ => 0) = id32 f := by
        rw [← hf]
        exact List.map_congr_left fun i _ => idsOf_getD bs m i (by rw [idsOf_length] at hlen; exact hlen)
      rw [ids_snoc _ _ hlen, List.map_append, e2]
    rw [e]
    exact ownsRow_heap hown4 fun b hb => Below.heap_setCell w4 ⟨w0.heap.size, 39, none⟩ _ _ (by simp only [Value.ownBlock, Option.some.injEq] at hb; show b ≠ w0.heap.size; omega)
  · exact ((h.below.trans (hb13.mono (by omega))).grown hgr (by simp; omega) (fun b hb => by have := hbk b hb; omega)).setCell (Nat.le_refl _) _
set_option maxRecDepth 100000 in
set_option maxHeartbeats 8000000 in
theorem refPut8 (r : Raw) (d l : Value) (bs : List UInt8) (hne : bs ≠ []) (hm : bs.length ≤ 100000000) (w : World) (hr : RdR w (fun b => b < w.heap.size) r d nilS l) :
    Calls Try.prog 25 #[.agg (msgA r d nilS l), .int .i64 8, .string ⟨bs.toArray⟩] w fun e w' => (bs.length % 32 ≠ 0 → ∃ M, e = .returned (.tuple #[.agg M, .int .i64 23]) ∧ M.size = 41 ∧ M.all (·.oneCell') = true) ∧ (bs.length % 32 = 0 → ∃ i', e = .returned (.tuple #[.agg (msgA { r with ids := idsOf bs } d i' l), .int .i64 0]) ∧ (msgA { r with ids := idsOf bs } d i' l).all (·.oneCell') = true ∧ ∃ A c, i' = .slice A (idsOf bs).length c ∧ (idsOf bs).length ≤ 140737488351232 ∧ RdI w' (fresh w w') A (idsOf bs)) ∧ Below w.heap.size w w' := by
  have hem := str_some hne
  have hsz := ba_len bs
  have hst : ∀ (Z : Array Value) ob, ob = .cells Z 28 → IdsAt w r d l bs Z 0 ((w.alloc (.cells (msgA r d nilS l) 28)).alloc ob) nilS := fun Z ob hob => by
    subst hob
    exact ⟨Nat.zero_le _, (Blk.new _ _ _).alloc _, Blk.newAt _ _ (by simp) rfl, World.ownsRow_nil _ _ _ _, by simp, ((Below.refl _ w).alloc (Nat.le_refl _) _).alloc (by simp) _⟩
  have hid := fun k hk W => refId_any bs k hk (by omega) W
  obtain ⟨S, hS⟩ : ∃ S : ByteArray, ⟨bs.toArray⟩ = S := ⟨_, rfl⟩
  obtain ⟨Z, hZ⟩ : ∃ Z, msgA (zeroRaw 0) nilS nilS nilS = Z := ⟨_, rfl⟩
  have hzs : Z.size = 41 := by rw [← hZ]; exact arr_size _ _
  have HZ := Lib.hid hZ
  have HZS := Lib.hid hzs
  obtain ⟨n, hn⟩ : ∃ n, bs.length = n := ⟨_, rfl⟩
  rw [hS] at hem hsz hid ⊢
  rw [hn] at hsz hid
  have HIDA := Lib.hid hid
  have HST := Lib.hid (hst Z)
  have HNM := Lib.hid (And.intro hn hm)
  have HR := Lib.hid hr
  clear hst hid hS hZ hzs hr hne hm hn
  by_cases h32 : n % 32 = 0
  · have hrem : (n : Int) % 32 = 0 := by omega
    have hrem2 : Int.tmod (n : Int) 32 = 0 := by rw [Int.tmod_eq_emod_of_nonneg (by omega)]; omega
    have hn8 : (n : Int) ≤ 100000000 := by have := HNM.out; omega
    go_enter Try.func25, Try.ntmps25
    go_wp2
    go_loopw [10] (fun v wr => ∃ (m : Nat) (lv : Value), v = .int .i64 ((32 * m : Nat) : Int) ∧ IdsAt w r d l bs Z m wr lv) (fun v _ => n - (intOf v).toNat)
    case atStart => exact ⟨0, nilS, rfl, HST.out _ (by rw [← HZ.out]; kernel_rfl)⟩
    case round =>
      obtain ⟨m, lv, rfl, hI⟩ := hrel
      have hk := hI.le
      rw [HNM.out.1] at hk
      obtain ⟨k, hkk⟩ : ∃ k, 32 * m = k := ⟨_, rfl⟩
      rw [hkk] at hk ⊢
      have HK := Lib.hid hkk
      have HI := Lib.hid hI
      have hc39 : wr.cell? ⟨w.heap.size, 39, none⟩ = some lv := (hI.at_.cell 39).trans (msg_at39 r d lv l)
      clear hI hkk
      by_cases hlt : k < n
      · have hkn : (k : Int) < (n : Int) := by omega
        have hk32 : k + 32 ≤ n := by have := HK.out; omega
        have HLT : Hid (32 * m + 32 ≤ bs.length) := Lib.hid (by rw [HNM.out.1, HK.out]; exact hk32)
        have hid := fun W => HIDA.out k hk32 W
        obtain ⟨f, hf⟩ : ∃ f : Nat → UInt8, (fun i => bs.getD (32 * m + i) 0) = f := ⟨_, rfl⟩
        have hfa : (arr 32 fun i => bv (bs.getD (k + i) 0)) = arr 32 fun i => bv (f i) := arr_congr fun j _ => by rw [← hf, HK.out]
        rw [hfa] at hid
        have HID := Lib.hid hid
        have HF := Lib.hid hf
        have q : Below wr.heap.size wr wr.drew := (Below.refl _ _).drew
        have hatl := HI.out.at_.lt
        have ALL : Hid (∀ W', Below wr.heap.size wr W' → W'.cell? ⟨w.heap.size, 39, none⟩ = some lv) := Lib.hid fun W' hb' => (hb'.cell (p := ⟨w.heap.size, 39, none⟩) hatl).trans hc39
        clear hid hf hfa hc39 hatl
        go_wp2
        refine wp_region_held_drew (S := fun _ => True) (by kernel_rfl) ?_ (fun hHeld => ?_)
        · trivial
        refine wpAnyH_take (i := 0) (oi := ⟨some 80, _, _, _, _, _⟩) (v := ?_) rfl (by kernel_rfl) (by kernel_rfl) (by kernel_rfl) (fun _ _ _ h => h) (Or.inl ⟨by rfl, ?_⟩) (by assumption) ?_
        rotate_left
        · intro w hSw; (try dsimp only at hSw); go_simp; try (with_reducible rfl)
        rotate_left 0
        try simp only [Act.put, List.setIfInBounds_toArray, List.set_cons_zero, List.set_cons_succ]
        refine wpAnyH_take (i := 2) (oi := ⟨some 82, _, _, _, _, _⟩) (v := ?_) rfl (by kernel_rfl) (by kernel_rfl) (by kernel_rfl) (fun _ _ _ h => h) (Or.inl ⟨by rfl, ?_⟩) (by assumption) ?_
        rotate_left
        · intro w hSw; (try dsimp only at hSw); go_simp; try (with_reducible rfl)
        rotate_left 0
        try simp only [Act.put, List.setIfInBounds_toArray, List.set_cons_zero, List.set_cons_succ]
        refine wpAnyH_take (i := 3) (oi := ⟨some 83, _, _, _, _, _⟩) (v := ?_) rfl (by kernel_rfl) (by kernel_rfl) (by kernel_rfl) (fun _ _ _ h => h) (Or.inl ⟨by rfl, ?_⟩) (by assumption) ?_
        rotate_left
        · intro w hSw; (try dsimp only at hSw); go_simp; try (with_reducible rfl)
        rotate_left 0
        try simp only [Act.put, List.setIfInBounds_toArray, List.set_cons_zero, List.set_cons_succ]
        refine wpAnyH_ready (rs := [1, 4]) (by kernel_rfl) (by simp) ?_
        refine AllReadyH.cons (o := ⟨some 81, _, _, _, _, _⟩) rfl (fun K hK => ?_) (AllReadyH.cons (o := ⟨some 84, _, _, _, _, _⟩) rfl (fun K hK => ?_) AllReadyH.nil)
        · have h7 := ALL.out _ q
          (try rw [if_pos (by rfl)])
          go_simp
          try dsimp only
          refine hK.out _ _ ?_ (fun hHeld => ?_)
          · trivial
          clear hK K
          try simp only [Act.put, List.setIfInBounds_toArray, List.set_cons_zero, List.set_cons_succ]
          clear h7
          refine wpAnyH_ready (rs := [4]) (by kernel_rfl) (by simp) ?_
          refine AllReadyH.cons (o := ⟨some 84, _, _, _, _, _⟩) rfl (fun K hK => ?_) AllReadyH.nil
          (try rw [if_pos (by rfl)])
          go_simp
          refine (HID.out _).mono ?_
          rintro e w1 ⟨rfl, hb1⟩
          have q1 := Kp.call q hb1
          try dsimp only
          refine hK.out _ _ ?_ (fun hHeld => ?_)
          · trivial
          clear hK K
          try simp only [Act.put, List.setIfInBounds_toArray, List.set_cons_zero, List.set_cons_succ]
          refine wpAnyH_ready (rs := [5]) (by kernel_rfl) (by simp) ?_
          refine AllReadyH.cons (o := ⟨some 85, _, _, _, _, _⟩) rfl (fun K hK => ?_) AllReadyH.nil
          rw [if_pos (by rfl)]
          refine wp_build_id (.tmp 84) rfl f rfl ?_
          try dsimp only
          refine hK.out _ _ ?_ (fun hHeld => ?_)
          · trivial
          clear hK K
          try simp only [Act.put, List.setIfInBounds_toArray, List.set_cons_zero, List.set_cons_succ]
          obtain ⟨g, cap, w4, hrun, hat4, hI5⟩ := HI.out.step HLT.out HNM.out.2 q1 f HF.out
          have R1 := Lib.hid hrun
          have kc : w4.cell? ⟨w.heap.size, 39, none⟩ = some lv := (hat4.cell 39).trans (msg_at39 r d lv l)
          have kf := hat4.frozen 39
          have HI5 := Lib.hid hI5
          clear hrun hat4 hI5
          refine wpAnyH_ready (rs := [6]) (by kernel_rfl) (by simp) ?_
          refine AllReadyH.cons (o := ⟨some 86, _, _, _, _, _⟩) rfl (fun K hK => ?_) AllReadyH.nil
          rw [if_pos (by rfl)]
          refine oper_append (.tmp 81) (.tmp 85) _ _ rfl _ _ rfl rfl _ _ R1.out ?_
          refine hK.out _ _ ?_ (fun hHeld => ?_)
          · trivial
          clear hK K
          try simp only [Act.put, List.setIfInBounds_toArray, List.set_cons_zero, List.set_cons_succ]
          refine wpAnyH_take (i := 7) (oi := ⟨some 87, _, _, _, _, _⟩) (v := ?_) rfl (by kernel_rfl) (by kernel_rfl) (by kernel_rfl) (fun _ _ _ h => h) (Or.inl ⟨by rfl, ?_⟩) (by assumption) ?_
          rotate_left
          · intro w hSw; (try dsimp only at hSw); go_simp; try (with_reducible rfl)
          rotate_left 0
          try simp only [Act.put, List.setIfInBounds_toArray, List.set_cons_zero, List.set_cons_succ]
          refine wpAnyH_ready (rs := [8]) (by kernel_rfl) (by simp) ?_
          refine AllReadyH.cons (o := ⟨none, _, _, _, _, _⟩) rfl (fun K hK => ?_) AllReadyH.nil
          go_simp
          refine hK.out _ _ ?_ (fun hHeld => ?_)
          · trivial
          clear hK K
          try simp only [Act.put, List.setIfInBounds_toArray, List.set_cons_zero, List.set_cons_succ]
          refine wpAnyH_done (by kernel_rfl) ?_ _
          clear hHeld q q1 hb1 ALL
          go_wp2
          go_roundw
          case rel => exact ⟨m + 1, _, by have hk' := HK.out; go_num, HI5.out⟩
          case measure => have := HK.out; simp [intOf]; omega
        · (try rw [if_pos (by rfl)])
          go_simp
          refine (HID.out _).mono ?_
          rintro e w1 ⟨rfl, hb1⟩
          have q1 := Kp.call q hb1
          try dsimp only
          refine hK.out _ _ ?_ (fun hHeld => ?_)
          · trivial
          clear hK K
          try simp only [Act.put, List.setIfInBounds_toArray, List.set_cons_zero, List.set_cons_succ]
          refine wpAnyH_ready (rs := [1, 5]) (by kernel_rfl) (by simp) ?_
          refine AllReadyH.cons (o := ⟨some 81, _, _, _, _, _⟩) rfl (fun K hK => ?_) (AllReadyH.cons (o := ⟨some 85, _, _, _, _, _⟩) rfl (fun K hK => ?_) AllReadyH.nil)
          · have h7 := ALL.out _ q1
            (try rw [if_pos (by rfl)])
            go_simp
            try dsimp only
            refine hK.out _ _ ?_ (fun hHeld => ?_)
            · trivial
            clear hK K
            try simp only [Act.put, List.setIfInBounds_toArray, List.set_cons_zero, List.set_cons_succ]
            clear h7
            refine wpAnyH_ready (rs := [5]) (by kernel_rfl) (by simp) ?_
            refine AllReadyH.cons (o := ⟨some 85, _, _, _, _, _⟩) rfl (fun K hK => ?_) AllReadyH.nil
            rw [if_pos (by rfl)]
            refine wp_build_id (.tmp 84) rfl f rfl ?_
            try dsimp only
            refine hK.out _ _ ?_ (fun hHeld => ?_)
            · trivial
            clear hK K
            try simp only [Act.put, List.setIfInBounds_toArray, List.set_cons_zero, List.set_cons_succ]
            obtain ⟨g, cap, w4, hrun, hat4, hI5⟩ := HI.out.step HLT.out HNM.out.2 q1 f HF.out
            have R1 := Lib.hid hrun
            have kc : w4.cell? ⟨w.heap.size, 39, none⟩ = some lv := (hat4.cell 39).trans (msg_at39 r d lv l)
            have kf := hat4.frozen 39
            have HI5 := Lib.hid hI5
            clear hrun hat4 hI5
            refine wpAnyH_ready (rs := [6]) (by kernel_rfl) (by simp) ?_
            refine AllReadyH.cons (o := ⟨some 86, _, _, _, _, _⟩) rfl (fun K hK => ?_) AllReadyH.nil
            rw [if_pos (by rfl)]
            refine oper_append (.tmp 81) (.tmp 85) _ _ rfl _ _ rfl rfl _ _ R1.out ?_
            refine hK.out _ _ ?_ (fun hHeld => ?_)
            · trivial
            clear hK K
            try simp only [Act.put, List.setIfInBounds_toArray, List.set_cons_zero, List.set_cons_succ]
            refine wpAnyH_take (i := 7) (oi := ⟨some 87, _, _, _, _, _⟩) (v := ?_) rfl (by kernel_rfl) (by kernel_rfl) (by kernel_rfl) (fun _ _ _ h => h) (Or.inl ⟨by rfl, ?_⟩) (by assumption) ?_
            rotate_left
            · intro w hSw; (try dsimp only at hSw); go_simp; try (with_reducible rfl)
            rotate_left 0
            try simp only [Act.put, List.setIfInBounds_toArray, List.set_cons_zero, List.set_cons_succ]
            refine wpAnyH_ready (rs := [8]) (by kernel_rfl) (by simp) ?_
            refine AllReadyH.cons (o := ⟨none, _, _, _, _, _⟩) rfl (fun K hK => ?_) AllReadyH.nil
            go_simp
            refine hK.out _ _ ?_ (fun hHeld => ?_)
            · trivial
            clear hK K
            try simp only [Act.put, List.setIfInBounds_toArray, List.set_cons_zero, List.set_cons_succ]
            refine wpAnyH_done (by kernel_rfl) ?_ _
            clear hHeld q q1 hb1 ALL
            go_wp2
            go_roundw
            case rel => exact ⟨m + 1, _, by have hk' := HK.out; go_num, HI5.out⟩
            case measure => have := HK.out; simp [intOf]; omega
          · rw [if_pos (by rfl)]
            refine wp_build_id (.tmp 84) rfl f rfl ?_
            try dsimp only
            refine hK.out _ _ ?_ (fun hHeld => ?_)
            · trivial
            clear hK K
            try simp only [Act.put, List.setIfInBounds_toArray, List.set_cons_zero, List.set_cons_succ]
            refine wpAnyH_ready (rs := [1]) (by kernel_rfl) (by simp) ?_
            refine AllReadyH.cons (o := ⟨some 81, _, _, _, _, _⟩) rfl (fun K hK => ?_) AllReadyH.nil
            have h7 := ALL.out _ (Kp.alloc q1 (.cells (arr 32 fun i => bv (f i)) 23))
            (try rw [if_pos (by rfl)])
            go_simp
            try dsimp only
            refine hK.out _ _ ?_ (fun hHeld => ?_)
            · trivial
            clear hK K
            try simp only [Act.put, List.setIfInBounds_toArray, List.set_cons_zero, List.set_cons_succ]
            clear h7
            obtain ⟨g, cap, w4, hrun, hat4, hI5⟩ := HI.out.step HLT.out HNM.out.2 q1 f HF.out
            have R1 := Lib.hid hrun
            have kc : w4.cell? ⟨w.heap.size, 39, none⟩ = some lv := (hat4.cell 39).trans (msg_at39 r d lv l)
            have kf := hat4.frozen 39
            have HI5 := Lib.hid hI5
            clear hrun hat4 hI5
            refine wpAnyH_ready (rs := [6]) (by kernel_rfl) (by simp) ?_
            refine AllReadyH.cons (o := ⟨some 86, _, _, _, _, _⟩) rfl (fun K hK => ?_) AllReadyH.nil
            rw [if_pos (by rfl)]
            refine oper_append (.tmp 81) (.tmp 85) _ _ rfl _ _ rfl rfl _ _ R1.out ?_
            refine hK.out _ _ ?_ (fun hHeld => ?_)
            · trivial
            clear hK K
            try simp only [Act.put, List.setIfInBounds_toArray, List.set_cons_zero, List.set_cons_succ]
            refine wpAnyH_take (i := 7) (oi := ⟨some 87, _, _, _, _, _⟩) (v := ?_) rfl (by kernel_rfl) (by kernel_rfl) (by kernel_rfl) (fun _ _ _ h => h) (Or.inl ⟨by rfl, ?_⟩) (by assumption) ?_
            rotate_left
            · intro w hSw; (try dsimp only at hSw); go_simp; try (with_reducible rfl)
            rotate_left 0
            try simp only [Act.put, List.setIfInBounds_toArray, List.set_cons_zero, List.set_cons_succ]
            refine wpAnyH_ready (rs := [8]) (by kernel_rfl) (by simp) ?_
            refine AllReadyH.cons (o := ⟨none, _, _, _, _, _⟩) rfl (fun K hK => ?_) AllReadyH.nil
            go_simp
            refine hK.out _ _ ?_ (fun hHeld => ?_)
            · trivial
            clear hK K
            try simp only [Act.put, List.setIfInBounds_toArray, List.set_cons_zero, List.set_cons_succ]
            refine wpAnyH_done (by kernel_rfl) ?_ _
            clear hHeld q q1 hb1 ALL
            go_wp2
            go_roundw
            case rel => exact ⟨m + 1, _, by have hk' := HK.out; go_num, HI5.out⟩
            case measure => have := HK.out; simp [intOf]; omega
      · obtain rfl : k = n := by omega
        have hm2 : 32 * m = bs.length := by rw [HK.out, HNM.out.1]
        have htake : (idsOf bs).take m = idsOf bs := List.take_of_length_le (by rw [idsOf_length]; omega)
        have HTK := Lib.hid htake
        have hrdr := HI.out.rdr HNM.out.2 HR.out
        rw [htake] at hrdr
        have hall := msg_all hrdr
        have hs1 : (msgA { r with ids := idsOf bs } d lv l).size = 41 := arr_size _ _
        have hatl : Blk wr w.heap.size 28 (msgA { r with ids := idsOf bs } d lv l) := HI.out.at_
        obtain ⟨M1, hM1⟩ : ∃ M, msgA { r with ids := idsOf bs } d lv l = M := ⟨_, rfl⟩
        rw [hM1] at hall hs1 hatl
        have HM1 := Lib.hid hM1
        have HS1 := Lib.hid hs1
        have HA1 := Lib.hid hall
        have HAT := Lib.hid hatl
        have HRR := Lib.hid hrdr
        clear hm2 htake hrdr hall hs1 hatl hM1 hc39
        go_wp2_with (first
          | (guard_target = wpList _ _ _ (Oper.mk _ (.load 28 _) _ _ _ _ :: _) _ _; refine wpList_load_row rfl 28 _ rfl w.heap.size rfl 28 (M1) (0, 0) _ (HAT.out) Try.underlying28 rfl (by rw [HS1.out]; kernel_rfl) ?_)
          | (guard_target = wpList _ _ _ (Oper.mk _ (.store 28 _ _) _ _ _ _ :: _) _ _; refine wpList_store_arrW rfl 28 _ _ rfl (w.heap.size + 1) (M1) rfl rfl 28 _ (HI.out.res) (by rw [HS1.out]; kernel_rfl) (by rw [HS1.out, HZS.out]) (HA1.out) ?_; intro W9 hS9 hz9 hb9 ho9))
        refine bodyPost_ret (results_cell_tmp (p := 6) (q := 7) rfl _ _ (w.heap.size + 1) 28 _ _ rfl hS9 Try.underlying28 rfl (by rw [HS1.out]; kernel_rfl)) rfl ?_
        have hw9 := HI.out.below.trans (hb9.mono (by omega))
        obtain ⟨A, c, hA1, hA2, hA3⟩ := HI.out.rdi HNM.out.2
        rw [HTK.out] at hA1 hA2 hA3
        exact ⟨fun h => absurd h32 (by rw [HNM.out.1] at h; exact h), fun _ => ⟨lv, by rw [HM1.out]; rfl, by rw [HM1.out]; exact HA1.out, A, c, hA1, hA2, (hA3.kept (W' := W9) fun a y ha hy => (World.cell?_of_block (ho9 a.block (by have := ha.1; omega))).trans hy).mono fun b hb => ⟨by have := hb.1; omega, by rw [hz9]; exact hb.2⟩⟩, hw9⟩
  · have hrem : ¬ (n : Int) % 32 = 0 := by omega
    have hrem1 : ((n : Int) % 32 != 0) = true := by simpa using hrem
    have hrem2 : ¬ Int.tmod (n : Int) 32 = 0 := by rw [Int.tmod_eq_emod_of_nonneg (by omega)]; exact hrem
    have hrem3 : (Int.tmod (n : Int) 32 != 0) = true := by simpa using hrem2
    have hL := HST.out (.cells Z 28) rfl
    have hrdr := HR.out
    have hall := msg_all hrdr
    have hs1 : (msgA r d nilS l).size = 41 := arr_size _ _
    have hR0 : Hid (∀ ob, Blk ((w.alloc (.cells (msgA r d nilS l) 28)).alloc ob) w.heap.size 28 (msgA r d nilS l)) := Lib.hid fun ob => (Blk.new _ _ _).alloc _
    obtain ⟨M1, hM1⟩ : ∃ M, msgA r d nilS l = M := ⟨_, rfl⟩
    rw [hM1] at hall hs1 hR0 ⊢
    have HS1 := Lib.hid hs1
    have HA1 := Lib.hid hall
    clear hL hrdr hall hs1 hM1
    go_enter Try.func25, Try.ntmps25
    go_wp2_with (first
      | (guard_target = wpList _ _ _ (Oper.mk _ (.load 28 _) _ _ _ _ :: _) _ _; refine wpList_load_row rfl 28 _ rfl w.heap.size rfl 28 (M1) (0, 0) _ (hR0.out _) Try.underlying28 rfl (by rw [HS1.out]; kernel_rfl) ?_)
      | (guard_target = wpList _ _ _ (Oper.mk _ (.store 28 _ _) _ _ _ _ :: _) _ _; refine wpList_store_arrW rfl 28 _ _ rfl (w.heap.size + 1) (M1) rfl rfl 28 _ (Blk.newAt _ _ (by simp) rfl) (by rw [HS1.out]; kernel_rfl) (by rw [HS1.out]; rfl) (HA1.out) ?_; intro W9 hS9 hz9 hb9 ho9))
    refine bodyPost_ret (results_cell_tmp (p := 6) (q := 7) rfl _ _ (w.heap.size + 1) 28 _ _ rfl hS9 Try.underlying28 rfl (by rw [HS1.out]; kernel_rfl)) rfl ?_
    exact ⟨fun _ => ⟨_, rfl, HS1.out, HA1.out⟩, fun h => absurd (by rw [HNM.out.1] at h; exact h) h32, (((Below.refl _ w).alloc (Nat.le_refl _) _).alloc (by simp) _).trans (hb9.mono (by omega))⟩
end Go.Proofs.Ytngceddlieimmaa
