/-
  The reference's Write: for every message, in whatever memory: its bytes as a string, or why it can't be written.
-/
import Derived.Test.YtekakelkjnhehaaPackRefParts
import Derived.Test.YtekakelkjnhehaaPackFields
namespace Go.Proofs.Ytekakelkjnhehaa
open Go Go.RowKit PackMath

theorem body_snoc (ps : List (List UInt8)) (k : Nat) (h : k < ps.length) : body 1 (ps.take (k + 1)) = body 1 (ps.take k) ++ if ps.getD k [] = [] then [] else UInt8.ofNat (k + 1) :: run (ps.getD k []) := by
  rw [List.take_succ_eq_append_getElem h, body_append, List.length_take, Nat.min_eq_left (by omega), List.getD_eq_getElem?_getD, List.getElem?_eq_getElem h, Nat.add_comm 1 k]
  simp [body]
theorem body_take_le (ps : List (List UInt8)) (k : Nat) : (body 1 (ps.take k)).length ≤ (body 1 ps).length := by
  have h := List.take_append_drop k ps
  have e : body 1 ps = body 1 (ps.take k ++ ps.drop k) := by rw [h]
  rw [e, body_append, List.length_append]
  omega
theorem body_len' (k : Nat) (ps : List (List UInt8)) (m : Nat) (h : ∀ p ∈ ps, p.length ≤ m) : (body k ps).length ≤ ps.length * (m + 4) := by
  induction ps generalizing k with
  | nil => simp [body]
  | cons p ps ih =>
    rw [body, List.length_append, List.length_cons, Nat.succ_mul]
    have h1 := ih (k + 1) fun q hq => h q (by simp [hq])
    have h2 := h p (by simp)
    have h3 : (if p = [] then ([] : List UInt8) else UInt8.ofNat k :: run p).length ≤ m + 4 := by
      by_cases hp : p = []
      · rw [if_pos hp]; simp
      · rw [if_neg hp, List.length_cons, run, List.length_append]
        have : (len3 p.length).length = 3 := rfl
        omega
    omega
set_option maxRecDepth 100000 in
set_option maxHeartbeats 2000000 in
theorem refWrite_no (r : Raw) (hf : ¬ r.Fit) (d i l : Value) (w : World) (hr : RdR w (fun b => b < w.heap.size) r d i l) :
    Calls Try.prog 7 #[.agg (msgA r d i l)] w fun e w' => e = .returned (.tuple #[.string ⟨#[]⟩, .int .i64 (r.check : Int)]) ∧ Below w.heap.size w w' := by
  have hb1 : Below w.heap.size w (w.alloc (.cells (msgA r d i l) 36)) := (Below.refl _ _).alloc (Nat.le_refl _) _
  have hx : Blk (w.alloc (.cells (msgA r d i l) 36)) w.heap.size 36 (msgA r d i l) := Blk.new _ _ _
  have hc := refCheck_any r d i l (w.alloc (.cells (msgA r d i l) 36)) ((hr.below hb1).mono fun b hb => by simp; omega)
  have hs : (msgA r d i l).size = 41 := arr_size _ _
  have h0 : ¬ r.check = 0 := fun h => hf (r.fit_iff.1 h)
  obtain ⟨M, hM⟩ : ∃ M, msgA r d i l = M := ⟨_, rfl⟩
  rw [hM] at hc hx hs hb1 ⊢
  obtain ⟨k, hk⟩ : ∃ k, r.check = k := ⟨_, rfl⟩
  rw [hk] at hc h0 ⊢
  have d0 : ((k : Int) == 0) = false := by simpa using h0
  have d1 : ((k : Int) != 0) = true := by simpa using h0
  have HC := Lib.hid hc
  have HB := Lib.hid hb1
  have HS := Lib.hid hs
  clear hc hb1 hs hM hk hr hf h0
  go_enter Try.func7, Try.ntmps7
  go_wp2_with (first
    | (refine wpList_load_row rfl 36 _ rfl w.heap.size rfl 36 M (0, 0) _ hx Try.underlying36 rfl (by rw [HS.out]; kernel_rfl) ?_)
    | (go_at_call 20; refine HC.out.mono ?_; rintro e w1 ⟨rfl, hb1⟩))
  go_ret2
  exact ⟨rfl, HB.out.trans (hb1.mono (by simp))⟩
set_option maxRecDepth 100000 in
set_option maxHeartbeats 4000000 in
theorem refWrite_ok (r : Raw) (hf : r.Fit) (d i l : Value) (w : World) (hr : RdR w (fun b => b < w.heap.size) r d i l) :
    Calls Try.prog 7 #[.agg (msgA r d i l)] w fun e w' => e = .returned (.tuple #[.string ⟨(writeM r.m).toArray⟩, .int .i64 0]) ∧ Below w.heap.size w w' := by
  have hb1 : Below w.heap.size w (w.alloc (.cells (msgA r d i l) 36)) := (Below.refl _ _).alloc (Nat.le_refl _) _
  have hx : Blk (w.alloc (.cells (msgA r d i l) 36)) w.heap.size 36 (msgA r d i l) := Blk.new _ _ _
  have hc := refCheck_any r d i l (w.alloc (.cells (msgA r d i l) 36)) ((hr.below hb1).mono fun b hb => by simp; omega)
  rw [r.fit_iff.2 hf] at hc
  have hs : (msgA r d i l).size = 41 := arr_size _ _
  have hk0 : Hid (∀ W, Blk W w.heap.size 36 (msgA r d i l) → W.cell? ⟨w.heap.size, 0, none⟩ = some (.int .i64 r.kind)) := Lib.hid fun W h => (msg_cells h).1
  have HPA : Hid (∀ W, Below w.heap.size w W → Calls Try.prog 21 #[.agg (msgA r d i l)] W fun e w' => ∃ g, e = .returned (.slice (some ⟨g, 0, none⟩) 9 9) ∧ W.heap.size ≤ g ∧ Blk w' g 9 (arr 9 fun k => .string ⟨((parts r.m).getD k []).toArray⟩) ∧ Below W.heap.size W w') :=
    Lib.hid fun W hb => refParts_any r hf d i l W ((hr.below hb).mono fun b hb' => Nat.lt_of_lt_of_le hb' hb.size)
  obtain ⟨M, hM⟩ : ∃ M, msgA r d i l = M := ⟨_, rfl⟩
  rw [hM] at hc hx hs hb1 hk0 HPA ⊢
  have HC := Lib.hid hc
  have HB := Lib.hid hb1
  have HS := Lib.hid hs
  have h31 := hf.kind
  obtain ⟨kb, hkb⟩ : ∃ kb, UInt8.ofNat r.m.kind = kb := ⟨_, rfl⟩
  have ek : Hid (bv kb = .int .u8 r.kind) := Lib.hid (by
    have : r.m.kind = r.kind.toNat := rfl
    rw [← hkb]
    unfold bv
    rw [UInt8.toNat_ofNat', this]
    congr 1
    omega)
  have HPS : Hid (∀ p ∈ parts r.m, p.length < 16777216) := Lib.hid (parts_short hf.ok)
  have hpl := parts_length r.m
  have HWR : Hid (writeM r.m = kb :: body 1 (parts r.m)) := Lib.hid (by rw [writeM, hkb])
  obtain ⟨ps, hps⟩ : ∃ ps, parts r.m = ps := ⟨_, rfl⟩
  rw [hps] at HPS HPA HWR hpl
  have HPL := Lib.hid hpl
  have k0 := hk0.out _ hx
  clear hc hb1 hs hM hr hf hkb hps hpl
  go_enter Try.func7, Try.ntmps7
  go_wp2_with (first
    | (refine wpList_load_row rfl 36 _ rfl w.heap.size rfl 36 M (0, 0) _ hx Try.underlying36 rfl (by rw [HS.out]; kernel_rfl) ?_)
    | (go_at_call 20; refine HC.out.mono ?_; rintro e w2 ⟨rfl, hb2⟩; have hx2 := hx.below hb2 (by simp); have k2 := hk0.out _ hx2; have hcv := str_rd (rd_one w2 kb); rw [ek.out] at hcv)
    | (refine wpList_load_row rfl 36 _ rfl w.heap.size rfl 36 M (0, 0) _ (hx2.alloc _) Try.underlying36 rfl (by rw [HS.out]; kernel_rfl) ?_)
    | (go_at_call 21; refine (HPA.out _ (((HB.out.trans (hb2.mono (by simp))).alloc (by have := hb2.size; simp at this; omega) _))).mono ?_; rintro e w3 ⟨g, rfl, hgw, hG, hb3⟩))
  have hz2 := hb2.size
  have hW3 : Below w.heap.size w w3 := ((HB.out.trans (hb2.mono (by simp))).alloc (by simp at hz2; omega) _).trans (hb3.mono (by simp at hz2 ⊢; omega))
  clear hcv hx2 k2 hb2 hb3 hx k0 hk0 HC HB HS h31 ek HPA hz2 hgw
  go_loopw [5, 7] (fun s i wr => ∃ k : Nat, k ≤ 9 ∧ i = .int .i64 (k : Int) ∧ s = .string ⟨(kb :: body 1 (ps.take k)).toArray⟩ ∧ Blk wr g 9 (arr 9 fun k => .string ⟨(ps.getD k []).toArray⟩) ∧ Below w.heap.size w wr) (fun _ i _ => 9 - (intOf i).toNat)
  case atStart => exact ⟨0, by omega, rfl, rfl, hG, hW3⟩
  case round =>
    clear hG hW3
    obtain ⟨k, hk, rfl, rfl, hG, hWk⟩ := hrel
    have HG := Lib.hid hG
    have HWK := Lib.hid hWk
    clear hWk
    by_cases hlt : k < 9
    · have hsn := body_snoc ps k (by rw [HPL.out]; exact hlt)
      have hbl0 := body_take_le ps k
      have hbl1 := body_len' 1 ps 16777216 (fun p hp => by have := HPS.out p hp; omega)
      rw [HPL.out] at hbl1
      have hpl := HPS.out (ps.getD k []) (by rw [List.getD_eq_getElem?_getD, List.getElem?_eq_getElem (by rw [HPL.out]; exact hlt)]; simp)
      have hck : wr.cell? ⟨g, k, none⟩ = some (.string ⟨(ps.getD k []).toArray⟩) := by rw [hG.cell, arr_get, if_pos hlt]
      have hkl : (k : Int) < 9 := by omega
      obtain ⟨p, hp⟩ : ∃ p, ps.getD k [] = p := ⟨_, rfl⟩
      rw [hp] at hsn hpl hck
      obtain ⟨b, hb⟩ : ∃ b, body 1 (ps.take k) = b := ⟨_, rfl⟩
      rw [hb] at hsn hbl0 ⊢
      clear hG
      by_cases h0 : p = []
      · rw [if_pos h0, List.append_nil] at hsn
        have HSN := Lib.hid hsn
        subst h0
        clear hsn hbl0 hbl1 hpl hp hb
        go_wp2
        go_roundw
        case rel => exact ⟨k + 1, by omega, by go_num, by rw [HSN.out], HG.out, HWK.out⟩
        case measure => simp [intOf]; omega
      · rw [if_neg h0] at hsn
        have hpe : p.isEmpty = false := by cases p with
          | nil => exact absurd rfl h0
          | cons _ _ => rfl
        have hpd : decide (p = []) = false := decide_eq_false h0
        obtain ⟨y, hy⟩ : ∃ y, UInt8.ofNat (k + 1) = y := ⟨_, rfl⟩
        rw [hy] at hsn
        have ey : bv y = .int .u8 ((k : Int) + 1) := by rw [← hy]; unfold bv; rw [UInt8.toNat_ofNat']; congr 1; omega
        have RN : Hid (∀ W : World, RdB (W.alloc (.cells #[.int .u8 ((k : Int) + 1)] 5)) (fun b => b = W.heap.size) (.slice (some ⟨W.heap.size, 0, none⟩) 1 1) [y]) := Lib.hid fun W => by rw [← ey]; exact rd_one W y
        have hrl : (run p).length = 3 + p.length := by rw [run, List.length_append]; rfl
        have TX := Lib.hid fun W => refRun_any p hpl W
        obtain ⟨rp, hrp⟩ : ∃ rp, run p = rp := ⟨_, rfl⟩
        rw [hrp] at hsn hrl TX
        have hcat1 : (({ data := [y].toArray } : ByteArray) ++ { data := rp.toArray }) = ⟨(y :: rp).toArray⟩ := ba_app _ _
        have hno1 : ¬ (9223372036854775807 < 1 + rp.length) := by omega
        have hcat2 : (({ data := (kb :: b).toArray } : ByteArray) ++ { data := (y :: rp).toArray }) = ⟨((kb :: b) ++ (y :: rp)).toArray⟩ := ba_app _ _
        have hno2 : ¬ (9223372036854775807 < b.length + 1 + (rp.length + 1)) := by omega
        have HST : Hid (kb :: body 1 (ps.take (k + 1)) = (kb :: b) ++ (y :: rp)) := Lib.hid (by rw [hsn]; rfl)
        have ALL2 : Hid (∀ W', Below wr.heap.size wr W' → W'.cell? ⟨g, k, none⟩ = some (.string ⟨p.toArray⟩)) := Lib.hid fun W' hb' => (hb'.cell (p := ⟨g, k, none⟩) HG.out.lt).trans hck
        have q : Below wr.heap.size wr wr.drew := (Below.refl _ _).drew
        have hw1 : IntKind.i64.wrap ((k : Int) + 1) = (k : Int) + 1 := by rw [IntKind.wrap_i64]; omega
        have hw2 : IntKind.u8.wrap ((k : Int) + 1) = (k : Int) + 1 := by rw [IntKind.wrap_u8']; omega
        clear hsn hbl0 hbl1 hpl hp hb hy ey hrp hrl h0
        go_wp2
        refine wp_region_held_drew (S := fun w' => w'.cell? ⟨g, k, none⟩ = some (.string ⟨p.toArray⟩)) (by kernel_rfl) ?_ (fun hHeld => ?_)
        · exact ALL2.out _ q
        refine wpAnyH_take (i := 0) (oi := ⟨some 29, _, _, _, _, _⟩) (v := ?_) rfl (by kernel_rfl) (by kernel_rfl) (by kernel_rfl) (fun _ _ _ h => h) (Or.inl ⟨by rfl, ?_⟩) (by assumption) ?_
        rotate_left
        · intro w hSw; (try dsimp only at hSw); go_simp; try (with_reducible rfl)
        rotate_left 0
        try simp only [Act.put, List.setIfInBounds_toArray, List.set_cons_zero, List.set_cons_succ]
        refine wpAnyH_take (i := 1) (oi := ⟨some 30, _, _, _, _, _⟩) (v := ?_) rfl (by kernel_rfl) (by kernel_rfl) (by kernel_rfl) (fun _ _ _ h => h) (Or.inl ⟨by rfl, ?_⟩) (by assumption) ?_
        rotate_left
        · intro w hSw; (try dsimp only at hSw); go_simp; try (with_reducible rfl)
        rotate_left 0
        try simp only [Act.put, List.setIfInBounds_toArray, List.set_cons_zero, List.set_cons_succ]
        refine wpAnyH_take (i := 2) (oi := ⟨some 31, _, _, _, _, _⟩) (v := ?_) rfl (by kernel_rfl) (by kernel_rfl) (by kernel_rfl) (fun _ _ _ h => h) (Or.inl ⟨by rfl, ?_⟩) (by assumption) ?_
        rotate_left
        · intro w hSw; (try dsimp only at hSw); go_simp; try (with_reducible rfl)
        rotate_left 0
        try simp only [Act.put, List.setIfInBounds_toArray, List.set_cons_zero, List.set_cons_succ]
        refine wpAnyH_take (i := 3) (oi := ⟨some 32, _, _, _, _, _⟩) (v := ?_) rfl (by kernel_rfl) (by kernel_rfl) (by kernel_rfl) (fun _ _ _ h => h) (Or.inl ⟨by rfl, ?_⟩) (by assumption) ?_
        rotate_left
        · intro w hSw; (try dsimp only at hSw); go_simp; try (with_reducible rfl)
        rotate_left 0
        try simp only [Act.put, List.setIfInBounds_toArray, List.set_cons_zero, List.set_cons_succ]
        refine wpAnyH_take (i := 6) (oi := ⟨some 35, _, _, _, _, _⟩) (v := ?_) rfl (by kernel_rfl) (by kernel_rfl) (by kernel_rfl) (fun _ _ _ h => h) (Or.inl ⟨by rfl, ?_⟩) (by assumption) ?_
        rotate_left
        · intro w hSw; (try dsimp only at hSw); go_simp; try (with_reducible rfl)
        rotate_left 0
        try simp only [Act.put, List.setIfInBounds_toArray, List.set_cons_zero, List.set_cons_succ]
        refine wpAnyH_take (i := 7) (oi := ⟨some 36, _, _, _, _, _⟩) (v := ?_) rfl (by kernel_rfl) (by kernel_rfl) (by kernel_rfl) (fun _ _ _ h => h) (Or.inl ⟨by rfl, ?_⟩) (by assumption) ?_
        rotate_left
        · intro w hSw; (try dsimp only at hSw); go_simp; try (with_reducible rfl)
        rotate_left 0
        try simp only [Act.put, List.setIfInBounds_toArray, List.set_cons_zero, List.set_cons_succ]
        refine wpAnyH_take (i := 8) (oi := ⟨some 37, _, _, _, _, _⟩) (v := ?_) rfl (by kernel_rfl) (by kernel_rfl) (by kernel_rfl) (fun _ _ _ h => h) (Or.inl ⟨by rfl, ?_⟩) (by assumption) ?_
        rotate_left
        · intro w hSw; (try dsimp only at hSw); go_simp; try (with_reducible rfl)
        rotate_left 0
        try simp only [Act.put, List.setIfInBounds_toArray, List.set_cons_zero, List.set_cons_succ]
        refine wpAnyH_take (i := 9) (oi := ⟨some 38, _, _, _, _, _⟩) (v := ?_) rfl (by kernel_rfl) (by kernel_rfl) (by kernel_rfl) (fun _ _ _ h => h) (Or.inl ⟨by rfl, ?_⟩) (by assumption) ?_
        rotate_left
        · intro w hSw; (try dsimp only at hSw); go_simp; try (with_reducible rfl)
        rotate_left 0
        try simp only [Act.put, List.setIfInBounds_toArray, List.set_cons_zero, List.set_cons_succ]
        refine wpAnyH_ready (rs := [4, 10]) (by kernel_rfl) (by simp) ?_
        refine AllReadyH.cons (o := ⟨some 33, _, _, _, _, _⟩) rfl (fun K hK => ?_) (AllReadyH.cons (o := ⟨some 39, _, _, _, _, _⟩) rfl (fun K hK => ?_) AllReadyH.nil)
        · go_simp
          have qb : Below wr.heap.size wr (wr.alloc (.cells #[.int .u8 ((k : Int) + 1)] 5)).drew := ((Below.refl _ wr).alloc (Nat.le_refl _) _).drew
          have hv0 : RdB (wr.alloc (.cells #[.int .u8 ((k : Int) + 1)] 5)).drew (fun b => b = wr.heap.size) (.slice (some ⟨wr.heap.size, 0, none⟩) 1 1) [y] := RN.out wr
          try dsimp only
          refine hK.out _ _ ?_ (fun hHeld => ?_)
          · exact ALL2.out _ qb
          clear hK K
          try simp only [Act.put, List.setIfInBounds_toArray, List.set_cons_zero, List.set_cons_succ]
          refine wpAnyH_ready (rs := [5, 10]) (by kernel_rfl) (by simp) ?_
          refine AllReadyH.cons (o := ⟨some 34, _, _, _, _, _⟩) rfl (fun K hK => ?_) (AllReadyH.cons (o := ⟨some 39, _, _, _, _, _⟩) rfl (fun K hK => ?_) AllReadyH.nil)
          · have hcv := str_rd hv0
            go_simp
            try dsimp only
            refine hK.out _ _ ?_ (fun hHeld => ?_)
            · exact ALL2.out _ qb
            clear hK K
            try simp only [Act.put, List.setIfInBounds_toArray, List.set_cons_zero, List.set_cons_succ]
            clear hcv
            refine wpAnyH_ready (rs := [10]) (by kernel_rfl) (by simp) ?_
            refine AllReadyH.cons (o := ⟨some 39, _, _, _, _, _⟩) rfl (fun K hK => ?_) AllReadyH.nil
            go_simp
            refine (TX.out _).mono ?_
            rintro e w1 ⟨rfl, hb1⟩
            have qz := Kp.call qb hb1
            try dsimp only
            refine hK.out _ _ ?_ (fun hHeld => ?_)
            · exact ALL2.out _ qz
            clear hK K
            try simp only [Act.put, List.setIfInBounds_toArray, List.set_cons_zero, List.set_cons_succ]
            refine wpAnyH_take (i := 11) (oi := ⟨some 40, _, _, _, _, _⟩) (v := ?_) rfl (by kernel_rfl) (by kernel_rfl) (by kernel_rfl) (fun _ _ _ h => h) (Or.inl ⟨by rfl, ?_⟩) (by assumption) ?_
            rotate_left
            · intro w hSw; (try dsimp only at hSw); go_simp; try (with_reducible rfl)
            rotate_left 0
            try simp only [Act.put, List.setIfInBounds_toArray, List.set_cons_zero, List.set_cons_succ]
            refine wpAnyH_take (i := 12) (oi := ⟨some 41, _, _, _, _, _⟩) (v := ?_) rfl (by kernel_rfl) (by kernel_rfl) (by kernel_rfl) (fun _ _ _ h => h) (Or.inl ⟨by rfl, ?_⟩) (by assumption) ?_
            rotate_left
            · intro w hSw; (try dsimp only at hSw); go_simp; try (with_reducible rfl)
            rotate_left 0
            try simp only [Act.put, List.setIfInBounds_toArray, List.set_cons_zero, List.set_cons_succ]
            refine wpAnyH_take (i := 13) (oi := ⟨some 5, _, _, _, _, _⟩) (v := ?_) rfl (by kernel_rfl) (by kernel_rfl) (by kernel_rfl) (fun _ _ _ h => h) (Or.inl ⟨by rfl, ?_⟩) (by assumption) ?_
            rotate_left
            · intro w hSw; (try dsimp only at hSw); go_simp; try (with_reducible rfl)
            rotate_left 0
            try simp only [Act.put, List.setIfInBounds_toArray, List.set_cons_zero, List.set_cons_succ]
            refine wpAnyH_done (by kernel_rfl) ?_ _
            have Q1 := Lib.hid qz
            clear hHeld q TX ALL2 RN hw1 hw2 qb hb1 hv0
            go_wp2
            go_roundw
            case rel => exact ⟨k + 1, by omega, by go_num, by rw [HST.out]; rfl, HG.out.below Q1.out HG.out.lt, HWK.out.trans (Q1.out.mono HWK.out.size)⟩
            case measure => simp [intOf]; omega
          · go_simp
            refine (TX.out _).mono ?_
            rintro e w1 ⟨rfl, hb1⟩
            have qz := Kp.call qb hb1
            try dsimp only
            refine hK.out _ _ ?_ (fun hHeld => ?_)
            · exact ALL2.out _ qz
            clear hK K
            try simp only [Act.put, List.setIfInBounds_toArray, List.set_cons_zero, List.set_cons_succ]
            have hv1 := hv0.kept (W' := w1) fun a x ha h => (hb1.cell (p := a) (by rw [show a.block = wr.heap.size from ha]; simp)).trans h
            refine wpAnyH_ready (rs := [5]) (by kernel_rfl) (by simp) ?_
            refine AllReadyH.cons (o := ⟨some 34, _, _, _, _, _⟩) rfl (fun K hK => ?_) AllReadyH.nil
            have hcv := str_rd (hv1)
            go_simp
            try dsimp only
            refine hK.out _ _ ?_ (fun hHeld => ?_)
            · exact ALL2.out _ qz
            clear hK K
            try simp only [Act.put, List.setIfInBounds_toArray, List.set_cons_zero, List.set_cons_succ]
            clear hcv
            refine wpAnyH_take (i := 11) (oi := ⟨some 40, _, _, _, _, _⟩) (v := ?_) rfl (by kernel_rfl) (by kernel_rfl) (by kernel_rfl) (fun _ _ _ h => h) (Or.inl ⟨by rfl, ?_⟩) (by assumption) ?_
            rotate_left
            · intro w hSw; (try dsimp only at hSw); go_simp; try (with_reducible rfl)
            rotate_left 0
            try simp only [Act.put, List.setIfInBounds_toArray, List.set_cons_zero, List.set_cons_succ]
            refine wpAnyH_take (i := 12) (oi := ⟨some 41, _, _, _, _, _⟩) (v := ?_) rfl (by kernel_rfl) (by kernel_rfl) (by kernel_rfl) (fun _ _ _ h => h) (Or.inl ⟨by rfl, ?_⟩) (by assumption) ?_
            rotate_left
            · intro w hSw; (try dsimp only at hSw); go_simp; try (with_reducible rfl)
            rotate_left 0
            try simp only [Act.put, List.setIfInBounds_toArray, List.set_cons_zero, List.set_cons_succ]
            refine wpAnyH_take (i := 13) (oi := ⟨some 5, _, _, _, _, _⟩) (v := ?_) rfl (by kernel_rfl) (by kernel_rfl) (by kernel_rfl) (fun _ _ _ h => h) (Or.inl ⟨by rfl, ?_⟩) (by assumption) ?_
            rotate_left
            · intro w hSw; (try dsimp only at hSw); go_simp; try (with_reducible rfl)
            rotate_left 0
            try simp only [Act.put, List.setIfInBounds_toArray, List.set_cons_zero, List.set_cons_succ]
            refine wpAnyH_done (by kernel_rfl) ?_ _
            have Q1 := Lib.hid qz
            clear hHeld q TX ALL2 RN hw1 hw2 qb hb1 hv0 hv1
            go_wp2
            go_roundw
            case rel => exact ⟨k + 1, by omega, by go_num, by rw [HST.out]; rfl, HG.out.below Q1.out HG.out.lt, HWK.out.trans (Q1.out.mono HWK.out.size)⟩
            case measure => simp [intOf]; omega
        · go_simp
          refine (TX.out _).mono ?_
          rintro e w1 ⟨rfl, hb1⟩
          have q1 := Kp.call q hb1
          try dsimp only
          refine hK.out _ _ ?_ (fun hHeld => ?_)
          · exact ALL2.out _ q1
          clear hK K
          try simp only [Act.put, List.setIfInBounds_toArray, List.set_cons_zero, List.set_cons_succ]
          refine wpAnyH_ready (rs := [4]) (by kernel_rfl) (by simp) ?_
          refine AllReadyH.cons (o := ⟨some 33, _, _, _, _, _⟩) rfl (fun K hK => ?_) AllReadyH.nil
          go_simp
          have qz := Kp.alloc q1 (.cells #[.int .u8 ((k : Int) + 1)] 5)
          have hv0 := RN.out w1
          try dsimp only
          refine hK.out _ _ ?_ (fun hHeld => ?_)
          · exact ALL2.out _ qz
          clear hK K
          try simp only [Act.put, List.setIfInBounds_toArray, List.set_cons_zero, List.set_cons_succ]
          refine wpAnyH_ready (rs := [5]) (by kernel_rfl) (by simp) ?_
          refine AllReadyH.cons (o := ⟨some 34, _, _, _, _, _⟩) rfl (fun K hK => ?_) AllReadyH.nil
          have hcv := str_rd (hv0)
          go_simp
          try dsimp only
          refine hK.out _ _ ?_ (fun hHeld => ?_)
          · exact ALL2.out _ qz
          clear hK K
          try simp only [Act.put, List.setIfInBounds_toArray, List.set_cons_zero, List.set_cons_succ]
          clear hcv
          refine wpAnyH_take (i := 11) (oi := ⟨some 40, _, _, _, _, _⟩) (v := ?_) rfl (by kernel_rfl) (by kernel_rfl) (by kernel_rfl) (fun _ _ _ h => h) (Or.inl ⟨by rfl, ?_⟩) (by assumption) ?_
          rotate_left
          · intro w hSw; (try dsimp only at hSw); go_simp; try (with_reducible rfl)
          rotate_left 0
          try simp only [Act.put, List.setIfInBounds_toArray, List.set_cons_zero, List.set_cons_succ]
          refine wpAnyH_take (i := 12) (oi := ⟨some 41, _, _, _, _, _⟩) (v := ?_) rfl (by kernel_rfl) (by kernel_rfl) (by kernel_rfl) (fun _ _ _ h => h) (Or.inl ⟨by rfl, ?_⟩) (by assumption) ?_
          rotate_left
          · intro w hSw; (try dsimp only at hSw); go_simp; try (with_reducible rfl)
          rotate_left 0
          try simp only [Act.put, List.setIfInBounds_toArray, List.set_cons_zero, List.set_cons_succ]
          refine wpAnyH_take (i := 13) (oi := ⟨some 5, _, _, _, _, _⟩) (v := ?_) rfl (by kernel_rfl) (by kernel_rfl) (by kernel_rfl) (fun _ _ _ h => h) (Or.inl ⟨by rfl, ?_⟩) (by assumption) ?_
          rotate_left
          · intro w hSw; (try dsimp only at hSw); go_simp; try (with_reducible rfl)
          rotate_left 0
          try simp only [Act.put, List.setIfInBounds_toArray, List.set_cons_zero, List.set_cons_succ]
          refine wpAnyH_done (by kernel_rfl) ?_ _
          have Q1 := Lib.hid qz
          clear hHeld q TX ALL2 RN hw1 hw2 q1 hb1 hv0
          go_wp2
          go_roundw
          case rel => exact ⟨k + 1, by omega, by go_num, by rw [HST.out]; rfl, HG.out.below Q1.out HG.out.lt, HWK.out.trans (Q1.out.mono HWK.out.size)⟩
          case measure => simp [intOf]; omega
    · obtain rfl : k = 9 := by omega
      have e : ps.take 9 = ps := by rw [← HPL.out]; simp
      rw [e, ← HWR.out]
      clear e hG
      obtain ⟨s, hs⟩ : ∃ s, writeM r.m = s := ⟨_, rfl⟩
      rw [hs]
      have HS := Lib.hid hs
      clear hs
      go_wp2
      go_ret2
      exact ⟨by rw [HS.out]; rfl, HWK.out⟩
end Go.Proofs.Ytekakelkjnhehaa
