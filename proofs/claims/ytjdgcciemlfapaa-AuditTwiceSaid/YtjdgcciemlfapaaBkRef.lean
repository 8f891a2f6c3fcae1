/-
  Reference of book: Check, of any bytes, in whatever memory. No condition but on their length.
-/
import Derived.Test.YtjdgcciemlfapaaQBk
import Derived.Test.YtjdgcciemlfapaaPackRefReadAll
namespace Go.Proofs.Ytjdgcciemlfapaa
open Go Go.RowKit PackMath

theorem put_ne {m : M} {s : List UInt8} {t c : Nat} (h : put m s t = .error c) : c ≠ 0 := by
  unfold put at h
  split at h <;> (try split at h) <;> first | (injection h with h; omega) | cases h
theorem fields_ne : ∀ (n last : Nat) (m : M) (s : List UInt8) (c : Nat), s.length ≤ n → fields last m s = .error c → c ≠ 0
  | n, last, m, [], c, _, h => by rw [fields.eq_def] at h; cases h
  | 0, last, m, t :: r, c, hn, _ => by simp at hn
  | n + 1, last, m, t :: r, c, hn, h => by
    rw [fields.eq_def] at h
    simp only at h
    split at h
    · injection h with h; omega
    · split at h
      · injection h with h; omega
      · rename_i x r' e
        split at h
        · injection h with h; omega
        · split at h
          · rename_i e2
            injection h with h
            subst h
            exact put_ne e2
          · have := take3_short e
            exact fields_ne n _ _ r' c (by simp at hn; omega) h
theorem readM_ne {b : List UInt8} {c : Nat} (h : readM b = .error c) : c ≠ 0 := by
  unfold readM at h
  split at h
  · injection h with h; omega
  · split at h
    · injection h with h; omega
    · split at h
      · rename_i e2
        injection h with h
        subst h
        exact fields_ne _ _ _ _ _ (Nat.le_refl _) e2
      · split at h
        · cases h
        · rename_i h0
          injection h with h
          subst h
          exact h0
def RefCheckOut (bs : List UInt8) (e : Ending) (_w' : World) : Prop :=
  match checkA bs with
  | .error c => e = .returned (.tuple #[.agg (msgA (zeroRaw 0) nilS nilS nilS), .int .i64 (c : Int)]) ∧ c ≠ 0
  | .ok r => ∃ r' d i l, r'.m = r.m ∧ r'.NN ∧ r.NN ∧ e = .returned (.tuple #[.agg (msgA r' d i l), .int .i64 0]) ∧ (msgA r' d i l).all (·.oneCell') = true
theorem Raw.more_iff {r : Raw} : r.more = false ↔ r.height = 0 ∧ r.round = 0 ∧ r.valid = 0 ∧ (id32 r.id == zid) = true ∧ r.ids.length = 0 ∧ r.list.length = 0 := by
  unfold Raw.more
  simp only [Bool.or_eq_false_iff, bne_eq_false_iff_eq, Bool.not_eq_false', decide_eq_false_iff_not, Nat.not_lt, Nat.le_zero]
theorem Raw.named_iff {r : Raw} : r.named = true ↔ r.kind = 1 ∧ r.who ≤ 15 ∧ 1 ≤ r.num := by
  unfold Raw.named
  simp only [Bool.and_eq_true, beq_iff_eq, decide_eq_true_iff]
theorem checkA_bad {bs : List UInt8} {r : Raw} (h : readP bs = .ok r) (hv : r.kind ≠ 1 ∨ ¬ 1 ≤ r.num ∨ ¬ r.who ≤ 15 ∨ r.height ≠ 0 ∨ r.round ≠ 0 ∨ r.valid ≠ 0 ∨ (id32 r.id == zid) ≠ true ∨ r.ids.length ≠ 0 ∨ r.list.length ≠ 0) : checkA bs = .error 23 := by
  unfold checkA
  rw [h]
  by_cases hm : r.more = true
  · simp only [hm, if_true]
  · have hm' : r.more = false := by simpa using hm
    have hn : ¬ r.named = true := fun hn => by
      obtain ⟨a1, a2, a3⟩ := Raw.named_iff.1 hn
      obtain ⟨b1, b2, b3, b4, b5, b6⟩ := Raw.more_iff.1 hm'
      rcases hv with h | h | h | h | h | h | h | h | h
      · exact h a1
      · exact h a3
      · exact h a2
      · exact h b1
      · exact h b2
      · exact h b3
      · exact h b4
      · exact h b5
      · exact h b6
    simp only [hm', hn, if_false, Bool.false_eq_true]
theorem checkA_good {bs : List UInt8} {r : Raw} (h : readP bs = .ok r) (h0 : r.kind = 1) (h1 : 1 ≤ r.num) (h2 : r.who ≤ 15) (h3 : r.height = 0) (h4 : r.round = 0) (h5 : r.valid = 0) (h6 : (id32 r.id == zid) = true) (h7 : r.ids.length = 0) (h8 : r.list.length = 0) : checkA bs = if 256 < r.data.length then .error 2 else .ok r := by
  unfold checkA
  rw [h]
  have hm := Raw.more_iff.2 ⟨h3, h4, h5, h6, h7, h8⟩
  have hn := Raw.named_iff.2 ⟨h0, h2, h1⟩
  simp only [hm, hn, if_true, if_false, Bool.false_eq_true]
theorem load_idK {W : World} {g : Nat} {r : Raw} {d i l : Value} (h : Blk W g 28 (msgA r d i l)) : (Instr.loadAt 23 (.pointer (some ⟨g, 6, none⟩))).run Try.prog W = .ok (.agg (arr 32 fun i => bv (r.id i))) W := by
  have h0 := run_load_el W 23 _ Try.underlying23 rfl ⟨g, 6, none⟩ (arr 32 fun i => bv (r.id i)).toList (by rw [Array.length_toList, arr_size]; kernel_rfl) fun q hq => by
    rw [Array.length_toList, arr_size] at hq
    rw [msg_id_cells h q hq, Array.getElem?_toList, arr_get, if_pos hq]
  exact h0
set_option maxRecDepth 100000 in
set_option maxHeartbeats 16000000 in
theorem refBkCheck_any (bs : List UInt8) (hm : bs.length ≤ 140737488351232) (w : World) :
    Calls Try.prog 31 #[.string ⟨bs.toArray⟩] w fun e w' => RefCheckOut bs e w' ∧ Below w.heap.size w w' := by
  have HZ0 := Lib.hid built_msg0
  have HZA : Hid ((msgA (zeroRaw 0) nilS nilS nilS).all (·.oneCell') = true) := Lib.hid (msg_all (zero_rd w (fun _ => False) 0))
  have HZS : Hid ((msgA (zeroRaw 0) nilS nilS nilS).size = 41) := Lib.hid (arr_size _ _)
  have HREAD : Hid (∀ W, Calls Try.prog 10 #[.string ⟨bs.toArray⟩] W fun e w' => RefReadOut bs e w' ∧ Below W.heap.size W w') := Lib.hid fun W => refRead_any bs hm W
  obtain ⟨S, hS⟩ : ∃ S : ByteArray, ⟨bs.toArray⟩ = S := ⟨_, rfl⟩
  rw [hS] at HREAD ⊢
  clear hS hm
  cases hrp : readM bs with
  | error k =>
    have HOUT : Hid (∀ w', RefCheckOut bs (.returned (.tuple #[.agg (msgA (zeroRaw 0) nilS nilS nilS), .int .i64 (k : Int)])) w') := Lib.hid fun w' => by
      unfold RefCheckOut checkA
      rw [(readP_readM bs).1 k hrp]
      exact ⟨rfl, readM_ne hrp⟩
    have HRE : Hid (∀ W, Calls Try.prog 10 #[.string S] W fun e w' => (e = .returned (.tuple #[.agg (msgA (zeroRaw 0) nilS nilS nilS), .int .i64 (k : Int)])) ∧ Below W.heap.size W w') := Lib.hid fun W => (HREAD.out W).mono fun e w' h => ⟨by have := h.1; unfold RefReadOut at this; rw [hrp] at this; exact this, h.2⟩
    have e1 : ((k : Int) != 0) = true := by have := readM_ne hrp; simpa using this
    clear hrp
    obtain ⟨Z, hZ⟩ : ∃ Z, msgA (zeroRaw 0) nilS nilS nilS = Z := ⟨_, rfl⟩
    rw [hZ] at HZ0 HZA HZS HOUT HRE
    clear hZ HREAD
    go_enter Try.func31, Try.ntmps31
    go_upto_region 1 with fail
    generalize hW1 : World.alloc w _ = W1
    have hb1 : Below w.heap.size w W1 := by rw [← hW1]; exact (Below.refl _ _).alloc (Nat.le_refl _) _
    obtain ⟨OLD, hk1, hos⟩ : ∃ OLD, Blk W1 w.heap.size 28 OLD ∧ OLD.size = 41 := by rw [← hW1]; exact ⟨_, Blk.new _ _ _, rfl⟩
    have HOS := Lib.hid hos
    have HK1 := Lib.hid hk1
    have HB1 := Lib.hid hb1
    clear hW1 hb1 hk1 hos
    go_wp2_with fail
    refine (HRE.out _).mono ?_
    rintro e W2 ⟨rfl, hb2⟩
    have HK2 := Lib.hid (HK1.out.below hb2 HK1.out.lt)
    have HB2 := Lib.hid (HB1.out.trans (hb2.mono HB1.out.size))
    clear hb2 HK1 HB1 HRE
    dsimp only
    go_upto_region 2 with (guard_target = wpList _ _ _ (Oper.mk _ (.store 28 (.tmp 4) _) _ _ _ _ :: _) _ _; refine wpList_store_row rfl 28 _ _ rfl W2.heap.size Z rfl rfl 28 _ (heap_alloc_new W2 _) (by rw [HZS.out]; kernel_rfl) (by rw [HZS.out]; rfl) HZA.out ?_; rw [World.setRow_alloc_new])
    generalize hW3 : World.alloc W2 _ = W3
    have hb3 : Below W2.heap.size W2 W3 := by rw [← hW3]; exact (Below.refl _ _).alloc (Nat.le_refl _) _
    have HO3 := Lib.hid (HK2.out.below hb3 HK2.out.lt)
    have HB3 := Lib.hid (HB2.out.trans (hb3.mono HB2.out.size))
    clear hW3 hb3
    go_wp2_with (first
      | (guard_target = wpList _ _ _ (Oper.mk _ (.load 23 _) _ _ _ _ :: _) _ _; refine wpList_load_runB (by rfl) 23 _ rfl (.pointer (some ⟨W2.heap.size, 6, none⟩)) (.agg cid) rfl HID.out ?_)
      | (guard_target = wpList _ _ _ (Oper.mk _ (.build 23 _) _ _ _ _ :: _) _ _; refine wpList_buildG (by rfl) 23 #[] rfl (by kernel_rfl) ?_; simp only [List.map_toArray, List.map_nil]; rw [hz])
      | (guard_target = wpList _ _ _ (Oper.mk _ (.build 28 _) _ _ _ _ :: _) _ _; refine wpList_build rfl 28 #[] rfl (by kernel_rfl) ?_; simp only [List.map_toArray, List.map_nil]; rw [HZ0.out])
      | (guard_target = wpList _ _ _ (Oper.mk _ (.store 28 (.tmp 2) _) _ _ _ _ :: _) _ _; refine wpList_store_row rfl 28 _ _ rfl w.heap.size Z rfl rfl 28 _ HO3.out (by rw [HZS.out]; kernel_rfl) (by rw [HZS.out, HOS.out]) HZA.out ?_))
    exact bodyPost_ret (results_cell_tmp (p := 2) (q := 3) rfl _ _ w.heap.size 28 _ _ rfl (HO3.out.setRow _) Try.underlying28 rfl (by rw [HZS.out]; kernel_rfl)) rfl ⟨HOUT.out _, below_setRow HB3.out (Nat.le_refl _) _⟩
  | ok mm =>
    obtain ⟨r, hrr, hrm, hNN⟩ := (readP_readM bs).2 mm hrp
    have HRE : Hid (∀ W, Calls Try.prog 10 #[.string S] W fun e w' => (∃ r' d i l, r'.m = r.m ∧ r'.NN ∧ e = .returned (.tuple #[.agg (msgA r' d i l), .int .i64 0]) ∧ RdR w' (fun b => b < w'.heap.size) r' d i l) ∧ Below W.heap.size W w') := Lib.hid fun W => (HREAD.out W).mono fun e w' h => ⟨by have := h.1; unfold RefReadOut at this; rw [hrp] at this; rw [hrm]; exact this, h.2⟩
    have HRP := Lib.hid hrr
    have HNN := Lib.hid hNN
    clear hrp hrr hrm hNN HREAD
    obtain ⟨Z, hZ⟩ : ∃ Z, msgA (zeroRaw 0) nilS nilS nilS = Z := ⟨_, rfl⟩
    have HZE := Lib.hid hZ
    rw [hZ] at HZ0 HZA HZS
    clear hZ
    go_enter Try.func31, Try.ntmps31
    go_upto_region 1 with fail
    generalize hW1 : World.alloc w _ = W1
    have hb1 : Below w.heap.size w W1 := by rw [← hW1]; exact (Below.refl _ _).alloc (Nat.le_refl _) _
    obtain ⟨OLD, hk1, hos⟩ : ∃ OLD, Blk W1 w.heap.size 28 OLD ∧ OLD.size = 41 := by rw [← hW1]; exact ⟨_, Blk.new _ _ _, rfl⟩
    have HOS := Lib.hid hos
    have HK1 := Lib.hid hk1
    have HB1 := Lib.hid hb1
    clear hW1 hb1 hk1 hos
    go_wp2_with fail
    refine (HRE.out _).mono ?_
    rintro e W2 ⟨⟨r', d, i, l, hmm, hN', rfl, hr2⟩, hb2⟩
    obtain ⟨a0, a1, a2, a3, a4, a5, a6, a7, a8, a9⟩ := Raw.alike hmm hN' HNN.out
    have hl8 : r'.ids.length = r.ids.length := by have := congrArg List.length a8; simpa using this
    have HCC : Hid ((r'.kind ≠ 1 ∨ ¬ 1 ≤ r'.num ∨ ¬ r'.who ≤ 15 ∨ r'.height ≠ 0 ∨ r'.round ≠ 0 ∨ r'.valid ≠ 0 ∨ (id32 r'.id == zid) ≠ true ∨ r'.ids.length ≠ 0 ∨ r'.list.length ≠ 0) → checkA bs = .error 23) := Lib.hid (by rw [a0, a1, a2, a3, a4, a5, a6, hl8, a9]; exact checkA_bad HRP.out)
    have HCO : Hid (r'.kind = 1 → 1 ≤ r'.num → r'.who ≤ 15 → r'.height = 0 → r'.round = 0 → r'.valid = 0 → (id32 r'.id == zid) = true → r'.ids.length = 0 → r'.list.length = 0 → checkA bs = if 256 < r'.data.length then .error 2 else .ok r) := Lib.hid (by rw [a0, a1, a2, a3, a4, a5, a6, a7, hl8, a9]; exact checkA_good HRP.out)
    have HMM : Hid (r'.m = r.m ∧ r'.NN ∧ r.NN) := Lib.hid ⟨hmm, hN', HNN.out⟩
    have HMA : Hid ((msgA r' d i l).all (·.oneCell') = true) := Lib.hid (msg_all hr2)
    have HMS : Hid ((msgA r' d i l).size = 41) := Lib.hid (arr_size _ _)
    obtain ⟨⟨Ad, cd, rfl, _⟩, ⟨Ai, ci, rfl, _, _⟩, ⟨Al, cl, rfl, _, _⟩⟩ := hr2
    have HK2 := Lib.hid (HK1.out.below hb2 HK1.out.lt)
    have HB2 := Lib.hid (HB1.out.trans (hb2.mono HB1.out.size))
    clear a0 a1 a2 a3 a4 a5 a6 a7 a8 a9 hl8 hmm hN' hb2 HK1 HB1 HRE
    obtain ⟨V, hV⟩ : ∃ V, msgA r' (.slice Ad r'.data.length cd) (.slice Ai r'.ids.length ci) (.slice Al r'.list.length cl) = V := ⟨_, rfl⟩
    have HV := Lib.hid hV
    rw [hV] at HMA HMS ⊢
    clear hV
    dsimp only
    go_upto_region 2 with (guard_target = wpList _ _ _ (Oper.mk _ (.store 28 (.tmp 4) _) _ _ _ _ :: _) _ _; refine wpList_store_row rfl 28 _ _ rfl W2.heap.size V rfl rfl 28 _ (heap_alloc_new W2 _) (by rw [HMS.out]; kernel_rfl) (by rw [HMS.out]; rfl) HMA.out ?_; rw [World.setRow_alloc_new])
    obtain ⟨W3, hW3⟩ : ∃ W3, W2.alloc (.cells V 28) = W3 := ⟨_, rfl⟩
    rw [hW3]
    have hb3 : Below W2.heap.size W2 W3 := by rw [← hW3]; exact (Below.refl _ _).alloc (Nat.le_refl _) _
    have HK3 : Hid (Blk W3 W2.heap.size 28 V) := Lib.hid (by rw [← hW3]; exact Blk.newAt _ _ rfl rfl)
    have HO3 := Lib.hid (HK2.out.below hb3 HK2.out.lt)
    have HB3 := Lib.hid (HB2.out.trans (hb3.mono HB2.out.size))
    have hk3 : Blk W3 W2.heap.size 28 (msgA r' (.slice Ad r'.data.length cd) (.slice Ai r'.ids.length ci) (.slice Al r'.list.length cl)) := by rw [HV.out]; exact HK3.out
    obtain ⟨c0, c1, c2, c3, c4, c5, c7, c8, c9⟩ := msg_cells hk3
    have hidc := load_idK hk3
    have heq := fun w' => neq_idK r'.id (fun _ => 0) w'
    rw [id32_zero] at heq
    have hz := built_zero
    clear hW3 hb3 hk3
    obtain ⟨cid, hcid⟩ : ∃ c, (arr 32 fun i => bv (r'.id i)) = c := ⟨_, rfl⟩
    have HC := Lib.hid hcid
    rw [hcid] at heq hidc
    have HID := Lib.hid hidc
    clear hcid hidc
    have HV' : Hid (∃ r'' d i l, r'' = r' ∧ msgA r'' d i l = V) := Lib.hid ⟨_, _, _, _, rfl, HV.out⟩
    have HN3 : Hid (r'.data.length = r'.data.length) := Lib.hid rfl
    obtain ⟨β, hβ⟩ : ∃ z, (id32 r'.id == zid) = z := ⟨_, rfl⟩
    obtain ⟨ni, hni⟩ : ∃ z, r'.ids.length = z := ⟨_, rfl⟩
    obtain ⟨nl, hnl⟩ : ∃ z, r'.list.length = z := ⟨_, rfl⟩
    obtain ⟨nd, hnd⟩ : ∃ z, r'.data.length = z := ⟨_, rfl⟩
    obtain ⟨x2, hx2⟩ : ∃ z, r'.height = z := ⟨_, rfl⟩
    obtain ⟨x3, hx3⟩ : ∃ z, r'.round = z := ⟨_, rfl⟩
    obtain ⟨x4, hx4⟩ : ∃ z, r'.valid = z := ⟨_, rfl⟩
    obtain ⟨k, hk0⟩ : ∃ z, r'.kind = z := ⟨_, rfl⟩
    obtain ⟨q, hq⟩ : ∃ z, r'.who = z := ⟨_, rfl⟩
    obtain ⟨m, hm⟩ : ∃ z, r'.num = z := ⟨_, rfl⟩
    rw [hk0] at c0 HCC HCO
    rw [hq] at c1 HCC HCO
    rw [hx2] at c2 HCC HCO
    rw [hx3] at c3 HCC HCO
    rw [hx4] at c4 HCC HCO
    rw [hm] at c5 HCC HCO
    rw [hnd] at c7 HCO
    rw [hni] at c8 HCC HCO
    rw [hnl] at c9 HCC HCO
    rw [hβ] at heq HCC HCO
    clear hβ hni hnl hnd hx2 hx3 hx4 hk0 hq hm
    by_cases h0 : k = 1
    · have d0 : (k != 1) = false := by simp; omega
      by_cases h1 : 1 ≤ m
      · have d1 : decide (m < 1) = false := decide_eq_false (by omega)
        by_cases h2 : q ≤ 15
        · have d2 : decide (q > 15) = false := decide_eq_false (by omega)
          by_cases h3 : x2 = 0
          · have d3 : (x2 != 0) = false := by simp; omega
            by_cases h4 : x3 = 0
            · have d4 : (x3 != 0) = false := by simp; omega
              by_cases h5 : x4 = 0
              · have d5 : (x4 != 0) = false := by simp; omega
                cases β with
                | false =>
                  have HOUT : Hid (∀ w', RefCheckOut bs (.returned (.tuple #[.agg Z, .int .i64 23])) w') := Lib.hid fun w' => by
                    unfold RefCheckOut
                    rw [HCC.out (Or.inr (Or.inr (Or.inr (Or.inr (Or.inr (Or.inr (Or.inl (by simp)))))))), ← HZE.out]
                    exact ⟨rfl, by omega⟩
                  
                  clear h0 h1 h2 h3 h4 h5
                  go_wp2_with (first
                    | (guard_target = wpList _ _ _ (Oper.mk _ (.load 23 _) _ _ _ _ :: _) _ _; refine wpList_load_runB (by rfl) 23 _ rfl (.pointer (some ⟨W2.heap.size, 6, none⟩)) (.agg cid) rfl HID.out ?_)
                    | (guard_target = wpList _ _ _ (Oper.mk _ (.build 23 _) _ _ _ _ :: _) _ _; refine wpList_buildG (by rfl) 23 #[] rfl (by kernel_rfl) ?_; simp only [List.map_toArray, List.map_nil]; rw [hz])
                    | (guard_target = wpList _ _ _ (Oper.mk _ (.build 28 _) _ _ _ _ :: _) _ _; refine wpList_build rfl 28 #[] rfl (by kernel_rfl) ?_; simp only [List.map_toArray, List.map_nil]; rw [HZ0.out])
                    | (guard_target = wpList _ _ _ (Oper.mk _ (.store 28 (.tmp 2) _) _ _ _ _ :: _) _ _; refine wpList_store_row rfl 28 _ _ rfl w.heap.size Z rfl rfl 28 _ HO3.out (by rw [HZS.out]; kernel_rfl) (by rw [HZS.out, HOS.out]) HZA.out ?_))
                  exact bodyPost_ret (results_cell_tmp (p := 2) (q := 3) rfl _ _ w.heap.size 28 _ _ rfl (HO3.out.setRow _) Try.underlying28 rfl (by rw [HZS.out]; kernel_rfl)) rfl ⟨HOUT.out _, below_setRow HB3.out (Nat.le_refl _) _⟩
                | true =>
                  by_cases h7 : ni = 0
                  · have d7 : decide ((ni : Int) > 0) = false := decide_eq_false (by omega)
                    have x10 : decide (0 < ni) = false := decide_eq_false (by omega)
                    by_cases h8 : nl = 0
                    · have d8 : decide ((nl : Int) > 0) = false := decide_eq_false (by omega)
                      have x11 : decide (0 < nl) = false := decide_eq_false (by omega)
                      by_cases h256 : 256 < nd
                      · have e8 : decide ((nd : Int) > 256) = true := decide_eq_true (by omega)
                        have HOUT : Hid (∀ w', RefCheckOut bs (.returned (.tuple #[.agg Z, .int .i64 2])) w') := Lib.hid fun w' => by
                          unfold RefCheckOut
                          rw [HCO.out h0 h1 h2 h3 h4 h5 rfl h7 h8, if_pos h256, ← HZE.out]
                          exact ⟨rfl, by omega⟩
                        clear h0 h1 h2 h3 h4 h5 h7 h8 h256
                        go_wp2_with (first
                          | (guard_target = wpList _ _ _ (Oper.mk _ (.load 23 _) _ _ _ _ :: _) _ _; refine wpList_load_runB (by rfl) 23 _ rfl (.pointer (some ⟨W2.heap.size, 6, none⟩)) (.agg cid) rfl HID.out ?_)
                          | (guard_target = wpList _ _ _ (Oper.mk _ (.build 23 _) _ _ _ _ :: _) _ _; refine wpList_buildG (by rfl) 23 #[] rfl (by kernel_rfl) ?_; simp only [List.map_toArray, List.map_nil]; rw [hz])
                          | (guard_target = wpList _ _ _ (Oper.mk _ (.build 28 _) _ _ _ _ :: _) _ _; refine wpList_build rfl 28 #[] rfl (by kernel_rfl) ?_; simp only [List.map_toArray, List.map_nil]; rw [HZ0.out])
                          | (guard_target = wpList _ _ _ (Oper.mk _ (.store 28 (.tmp 2) _) _ _ _ _ :: _) _ _; refine wpList_store_row rfl 28 _ _ rfl w.heap.size Z rfl rfl 28 _ HO3.out (by rw [HZS.out]; kernel_rfl) (by rw [HZS.out, HOS.out]) HZA.out ?_))
                        exact bodyPost_ret (results_cell_tmp (p := 2) (q := 3) rfl _ _ w.heap.size 28 _ _ rfl (HO3.out.setRow _) Try.underlying28 rfl (by rw [HZS.out]; kernel_rfl)) rfl ⟨HOUT.out _, below_setRow HB3.out (Nat.le_refl _) _⟩
                      · have e8 : decide ((nd : Int) > 256) = false := decide_eq_false (by omega)
                        have HOUT : Hid (∀ w', RefCheckOut bs (.returned (.tuple #[.agg V, .int .i64 0])) w') := Lib.hid fun w' => by
                          unfold RefCheckOut
                          rw [HCO.out h0 h1 h2 h3 h4 h5 rfl h7 h8, if_neg h256, ← HV.out]
                          exact ⟨_, _, _, _, HMM.out.1, HMM.out.2.1, HMM.out.2.2, rfl, by rw [HV.out]; exact HMA.out⟩
                        clear h0 h1 h2 h3 h4 h5 h7 h8 h256
                        go_wp2_with (first
                          | (guard_target = wpList _ _ _ (Oper.mk _ (.load 23 _) _ _ _ _ :: _) _ _; refine wpList_load_runB (by rfl) 23 _ rfl (.pointer (some ⟨W2.heap.size, 6, none⟩)) (.agg cid) rfl HID.out ?_)
                          | (guard_target = wpList _ _ _ (Oper.mk _ (.build 23 _) _ _ _ _ :: _) _ _; refine wpList_buildG (by rfl) 23 #[] rfl (by kernel_rfl) ?_; simp only [List.map_toArray, List.map_nil]; rw [hz])
                          | (guard_target = wpList _ _ _ (Oper.mk _ (.load 28 _) _ _ _ _ :: _) _ _; refine wpList_load_runB (by rfl) 28 _ rfl (.pointer (some ⟨W2.heap.size, 0, none⟩)) (.agg V) rfl (load_msgK HK3.out HMS.out) ?_)
                          | (guard_target = wpList _ _ _ (Oper.mk _ (.store 28 (.tmp 2) _) _ _ _ _ :: _) _ _; refine wpList_store_row rfl 28 _ _ rfl w.heap.size V rfl rfl 28 _ HO3.out (by rw [HMS.out]; kernel_rfl) (by rw [HMS.out, HOS.out]) HMA.out ?_))
                        exact bodyPost_ret (results_cell_tmp (p := 2) (q := 3) rfl _ _ w.heap.size 28 _ _ rfl (HO3.out.setRow _) Try.underlying28 rfl (by rw [HMS.out]; kernel_rfl)) rfl ⟨HOUT.out _, below_setRow HB3.out (Nat.le_refl _) _⟩
                    · have d8 : decide ((nl : Int) > 0) = true := decide_eq_true (by omega)
                      have x11 : decide (0 < nl) = true := decide_eq_true (by omega)
                      have HOUT : Hid (∀ w', RefCheckOut bs (.returned (.tuple #[.agg Z, .int .i64 23])) w') := Lib.hid fun w' => by
                        unfold RefCheckOut
                        rw [HCC.out (Or.inr (Or.inr (Or.inr (Or.inr (Or.inr (Or.inr (Or.inr (Or.inr h8)))))))), ← HZE.out]
                        exact ⟨rfl, by omega⟩
                      
                      clear h0 h1 h2 h3 h4 h5 h7 h8
                      go_wp2_with (first
                        | (guard_target = wpList _ _ _ (Oper.mk _ (.load 23 _) _ _ _ _ :: _) _ _; refine wpList_load_runB (by rfl) 23 _ rfl (.pointer (some ⟨W2.heap.size, 6, none⟩)) (.agg cid) rfl HID.out ?_)
                        | (guard_target = wpList _ _ _ (Oper.mk _ (.build 23 _) _ _ _ _ :: _) _ _; refine wpList_buildG (by rfl) 23 #[] rfl (by kernel_rfl) ?_; simp only [List.map_toArray, List.map_nil]; rw [hz])
                        | (guard_target = wpList _ _ _ (Oper.mk _ (.build 28 _) _ _ _ _ :: _) _ _; refine wpList_build rfl 28 #[] rfl (by kernel_rfl) ?_; simp only [List.map_toArray, List.map_nil]; rw [HZ0.out])
                        | (guard_target = wpList _ _ _ (Oper.mk _ (.store 28 (.tmp 2) _) _ _ _ _ :: _) _ _; refine wpList_store_row rfl 28 _ _ rfl w.heap.size Z rfl rfl 28 _ HO3.out (by rw [HZS.out]; kernel_rfl) (by rw [HZS.out, HOS.out]) HZA.out ?_))
                      exact bodyPost_ret (results_cell_tmp (p := 2) (q := 3) rfl _ _ w.heap.size 28 _ _ rfl (HO3.out.setRow _) Try.underlying28 rfl (by rw [HZS.out]; kernel_rfl)) rfl ⟨HOUT.out _, below_setRow HB3.out (Nat.le_refl _) _⟩
                  · have d7 : decide ((ni : Int) > 0) = true := decide_eq_true (by omega)
                    have x10 : decide (0 < ni) = true := decide_eq_true (by omega)
                    have HOUT : Hid (∀ w', RefCheckOut bs (.returned (.tuple #[.agg Z, .int .i64 23])) w') := Lib.hid fun w' => by
                      unfold RefCheckOut
                      rw [HCC.out (Or.inr (Or.inr (Or.inr (Or.inr (Or.inr (Or.inr (Or.inr (Or.inl h7)))))))), ← HZE.out]
                      exact ⟨rfl, by omega⟩
                    
                    clear h0 h1 h2 h3 h4 h5 h7
                    go_wp2_with (first
                      | (guard_target = wpList _ _ _ (Oper.mk _ (.load 23 _) _ _ _ _ :: _) _ _; refine wpList_load_runB (by rfl) 23 _ rfl (.pointer (some ⟨W2.heap.size, 6, none⟩)) (.agg cid) rfl HID.out ?_)
                      | (guard_target = wpList _ _ _ (Oper.mk _ (.build 23 _) _ _ _ _ :: _) _ _; refine wpList_buildG (by rfl) 23 #[] rfl (by kernel_rfl) ?_; simp only [List.map_toArray, List.map_nil]; rw [hz])
                      | (guard_target = wpList _ _ _ (Oper.mk _ (.build 28 _) _ _ _ _ :: _) _ _; refine wpList_build rfl 28 #[] rfl (by kernel_rfl) ?_; simp only [List.map_toArray, List.map_nil]; rw [HZ0.out])
                      | (guard_target = wpList _ _ _ (Oper.mk _ (.store 28 (.tmp 2) _) _ _ _ _ :: _) _ _; refine wpList_store_row rfl 28 _ _ rfl w.heap.size Z rfl rfl 28 _ HO3.out (by rw [HZS.out]; kernel_rfl) (by rw [HZS.out, HOS.out]) HZA.out ?_))
                    exact bodyPost_ret (results_cell_tmp (p := 2) (q := 3) rfl _ _ w.heap.size 28 _ _ rfl (HO3.out.setRow _) Try.underlying28 rfl (by rw [HZS.out]; kernel_rfl)) rfl ⟨HOUT.out _, below_setRow HB3.out (Nat.le_refl _) _⟩
              · have d5 : (x4 != 0) = true := by simp; omega
                have HOUT : Hid (∀ w', RefCheckOut bs (.returned (.tuple #[.agg Z, .int .i64 23])) w') := Lib.hid fun w' => by
                  unfold RefCheckOut
                  rw [HCC.out (Or.inr (Or.inr (Or.inr (Or.inr (Or.inr (Or.inl h5)))))), ← HZE.out]
                  exact ⟨rfl, by omega⟩
                
                clear h0 h1 h2 h3 h4 h5
                go_wp2_with (first
                  | (guard_target = wpList _ _ _ (Oper.mk _ (.load 23 _) _ _ _ _ :: _) _ _; refine wpList_load_runB (by rfl) 23 _ rfl (.pointer (some ⟨W2.heap.size, 6, none⟩)) (.agg cid) rfl HID.out ?_)
                  | (guard_target = wpList _ _ _ (Oper.mk _ (.build 23 _) _ _ _ _ :: _) _ _; refine wpList_buildG (by rfl) 23 #[] rfl (by kernel_rfl) ?_; simp only [List.map_toArray, List.map_nil]; rw [hz])
                  | (guard_target = wpList _ _ _ (Oper.mk _ (.build 28 _) _ _ _ _ :: _) _ _; refine wpList_build rfl 28 #[] rfl (by kernel_rfl) ?_; simp only [List.map_toArray, List.map_nil]; rw [HZ0.out])
                  | (guard_target = wpList _ _ _ (Oper.mk _ (.store 28 (.tmp 2) _) _ _ _ _ :: _) _ _; refine wpList_store_row rfl 28 _ _ rfl w.heap.size Z rfl rfl 28 _ HO3.out (by rw [HZS.out]; kernel_rfl) (by rw [HZS.out, HOS.out]) HZA.out ?_))
                exact bodyPost_ret (results_cell_tmp (p := 2) (q := 3) rfl _ _ w.heap.size 28 _ _ rfl (HO3.out.setRow _) Try.underlying28 rfl (by rw [HZS.out]; kernel_rfl)) rfl ⟨HOUT.out _, below_setRow HB3.out (Nat.le_refl _) _⟩
            · have d4 : (x3 != 0) = true := by simp; omega
              have HOUT : Hid (∀ w', RefCheckOut bs (.returned (.tuple #[.agg Z, .int .i64 23])) w') := Lib.hid fun w' => by
                unfold RefCheckOut
                rw [HCC.out (Or.inr (Or.inr (Or.inr (Or.inr (Or.inl h4))))), ← HZE.out]
                exact ⟨rfl, by omega⟩
              
              clear h0 h1 h2 h3 h4
              go_wp2_with (first
                | (guard_target = wpList _ _ _ (Oper.mk _ (.load 23 _) _ _ _ _ :: _) _ _; refine wpList_load_runB (by rfl) 23 _ rfl (.pointer (some ⟨W2.heap.size, 6, none⟩)) (.agg cid) rfl HID.out ?_)
                | (guard_target = wpList _ _ _ (Oper.mk _ (.build 23 _) _ _ _ _ :: _) _ _; refine wpList_buildG (by rfl) 23 #[] rfl (by kernel_rfl) ?_; simp only [List.map_toArray, List.map_nil]; rw [hz])
                | (guard_target = wpList _ _ _ (Oper.mk _ (.build 28 _) _ _ _ _ :: _) _ _; refine wpList_build rfl 28 #[] rfl (by kernel_rfl) ?_; simp only [List.map_toArray, List.map_nil]; rw [HZ0.out])
                | (guard_target = wpList _ _ _ (Oper.mk _ (.store 28 (.tmp 2) _) _ _ _ _ :: _) _ _; refine wpList_store_row rfl 28 _ _ rfl w.heap.size Z rfl rfl 28 _ HO3.out (by rw [HZS.out]; kernel_rfl) (by rw [HZS.out, HOS.out]) HZA.out ?_))
              exact bodyPost_ret (results_cell_tmp (p := 2) (q := 3) rfl _ _ w.heap.size 28 _ _ rfl (HO3.out.setRow _) Try.underlying28 rfl (by rw [HZS.out]; kernel_rfl)) rfl ⟨HOUT.out _, below_setRow HB3.out (Nat.le_refl _) _⟩
          · have d3 : (x2 != 0) = true := by simp; omega
            have HOUT : Hid (∀ w', RefCheckOut bs (.returned (.tuple #[.agg Z, .int .i64 23])) w') := Lib.hid fun w' => by
              unfold RefCheckOut
              rw [HCC.out (Or.inr (Or.inr (Or.inr (Or.inl h3)))), ← HZE.out]
              exact ⟨rfl, by omega⟩
            
            clear h0 h1 h2 h3
            go_wp2_with (first
              | (guard_target = wpList _ _ _ (Oper.mk _ (.load 23 _) _ _ _ _ :: _) _ _; refine wpList_load_runB (by rfl) 23 _ rfl (.pointer (some ⟨W2.heap.size, 6, none⟩)) (.agg cid) rfl HID.out ?_)
              | (guard_target = wpList _ _ _ (Oper.mk _ (.build 23 _) _ _ _ _ :: _) _ _; refine wpList_buildG (by rfl) 23 #[] rfl (by kernel_rfl) ?_; simp only [List.map_toArray, List.map_nil]; rw [hz])
              | (guard_target = wpList _ _ _ (Oper.mk _ (.build 28 _) _ _ _ _ :: _) _ _; refine wpList_build rfl 28 #[] rfl (by kernel_rfl) ?_; simp only [List.map_toArray, List.map_nil]; rw [HZ0.out])
              | (guard_target = wpList _ _ _ (Oper.mk _ (.store 28 (.tmp 2) _) _ _ _ _ :: _) _ _; refine wpList_store_row rfl 28 _ _ rfl w.heap.size Z rfl rfl 28 _ HO3.out (by rw [HZS.out]; kernel_rfl) (by rw [HZS.out, HOS.out]) HZA.out ?_))
            exact bodyPost_ret (results_cell_tmp (p := 2) (q := 3) rfl _ _ w.heap.size 28 _ _ rfl (HO3.out.setRow _) Try.underlying28 rfl (by rw [HZS.out]; kernel_rfl)) rfl ⟨HOUT.out _, below_setRow HB3.out (Nat.le_refl _) _⟩
        · have d2 : decide (q > 15) = true := decide_eq_true (by omega)
          have HOUT : Hid (∀ w', RefCheckOut bs (.returned (.tuple #[.agg Z, .int .i64 23])) w') := Lib.hid fun w' => by
            unfold RefCheckOut
            rw [HCC.out (Or.inr (Or.inr (Or.inl h2))), ← HZE.out]
            exact ⟨rfl, by omega⟩
          
          clear h0 h1 h2
          go_wp2_with (first
            | (guard_target = wpList _ _ _ (Oper.mk _ (.load 23 _) _ _ _ _ :: _) _ _; refine wpList_load_runB (by rfl) 23 _ rfl (.pointer (some ⟨W2.heap.size, 6, none⟩)) (.agg cid) rfl HID.out ?_)
            | (guard_target = wpList _ _ _ (Oper.mk _ (.build 23 _) _ _ _ _ :: _) _ _; refine wpList_buildG (by rfl) 23 #[] rfl (by kernel_rfl) ?_; simp only [List.map_toArray, List.map_nil]; rw [hz])
            | (guard_target = wpList _ _ _ (Oper.mk _ (.build 28 _) _ _ _ _ :: _) _ _; refine wpList_build rfl 28 #[] rfl (by kernel_rfl) ?_; simp only [List.map_toArray, List.map_nil]; rw [HZ0.out])
            | (guard_target = wpList _ _ _ (Oper.mk _ (.store 28 (.tmp 2) _) _ _ _ _ :: _) _ _; refine wpList_store_row rfl 28 _ _ rfl w.heap.size Z rfl rfl 28 _ HO3.out (by rw [HZS.out]; kernel_rfl) (by rw [HZS.out, HOS.out]) HZA.out ?_))
          exact bodyPost_ret (results_cell_tmp (p := 2) (q := 3) rfl _ _ w.heap.size 28 _ _ rfl (HO3.out.setRow _) Try.underlying28 rfl (by rw [HZS.out]; kernel_rfl)) rfl ⟨HOUT.out _, below_setRow HB3.out (Nat.le_refl _) _⟩
      · have d1 : decide (m < 1) = true := decide_eq_true (by omega)
        have HOUT : Hid (∀ w', RefCheckOut bs (.returned (.tuple #[.agg Z, .int .i64 23])) w') := Lib.hid fun w' => by
          unfold RefCheckOut
          rw [HCC.out (Or.inr (Or.inl h1)), ← HZE.out]
          exact ⟨rfl, by omega⟩
        
        clear h0 h1
        go_wp2_with (first
          | (guard_target = wpList _ _ _ (Oper.mk _ (.load 23 _) _ _ _ _ :: _) _ _; refine wpList_load_runB (by rfl) 23 _ rfl (.pointer (some ⟨W2.heap.size, 6, none⟩)) (.agg cid) rfl HID.out ?_)
          | (guard_target = wpList _ _ _ (Oper.mk _ (.build 23 _) _ _ _ _ :: _) _ _; refine wpList_buildG (by rfl) 23 #[] rfl (by kernel_rfl) ?_; simp only [List.map_toArray, List.map_nil]; rw [hz])
          | (guard_target = wpList _ _ _ (Oper.mk _ (.build 28 _) _ _ _ _ :: _) _ _; refine wpList_build rfl 28 #[] rfl (by kernel_rfl) ?_; simp only [List.map_toArray, List.map_nil]; rw [HZ0.out])
          | (guard_target = wpList _ _ _ (Oper.mk _ (.store 28 (.tmp 2) _) _ _ _ _ :: _) _ _; refine wpList_store_row rfl 28 _ _ rfl w.heap.size Z rfl rfl 28 _ HO3.out (by rw [HZS.out]; kernel_rfl) (by rw [HZS.out, HOS.out]) HZA.out ?_))
        exact bodyPost_ret (results_cell_tmp (p := 2) (q := 3) rfl _ _ w.heap.size 28 _ _ rfl (HO3.out.setRow _) Try.underlying28 rfl (by rw [HZS.out]; kernel_rfl)) rfl ⟨HOUT.out _, below_setRow HB3.out (Nat.le_refl _) _⟩
    · have d0 : (k != 1) = true := by simp; omega
      have HOUT : Hid (∀ w', RefCheckOut bs (.returned (.tuple #[.agg Z, .int .i64 23])) w') := Lib.hid fun w' => by
        unfold RefCheckOut
        rw [HCC.out (Or.inl h0), ← HZE.out]
        exact ⟨rfl, by omega⟩
      
      clear h0
      go_wp2_with (first
        | (guard_target = wpList _ _ _ (Oper.mk _ (.load 23 _) _ _ _ _ :: _) _ _; refine wpList_load_runB (by rfl) 23 _ rfl (.pointer (some ⟨W2.heap.size, 6, none⟩)) (.agg cid) rfl HID.out ?_)
        | (guard_target = wpList _ _ _ (Oper.mk _ (.build 23 _) _ _ _ _ :: _) _ _; refine wpList_buildG (by rfl) 23 #[] rfl (by kernel_rfl) ?_; simp only [List.map_toArray, List.map_nil]; rw [hz])
        | (guard_target = wpList _ _ _ (Oper.mk _ (.build 28 _) _ _ _ _ :: _) _ _; refine wpList_build rfl 28 #[] rfl (by kernel_rfl) ?_; simp only [List.map_toArray, List.map_nil]; rw [HZ0.out])
        | (guard_target = wpList _ _ _ (Oper.mk _ (.store 28 (.tmp 2) _) _ _ _ _ :: _) _ _; refine wpList_store_row rfl 28 _ _ rfl w.heap.size Z rfl rfl 28 _ HO3.out (by rw [HZS.out]; kernel_rfl) (by rw [HZS.out, HOS.out]) HZA.out ?_))
      exact bodyPost_ret (results_cell_tmp (p := 2) (q := 3) rfl _ _ w.heap.size 28 _ _ rfl (HO3.out.setRow _) Try.underlying28 rfl (by rw [HZS.out]; kernel_rfl)) rfl ⟨HOUT.out _, below_setRow HB3.out (Nat.le_refl _) _⟩
end Go.Proofs.Ytjdgcciemlfapaa
