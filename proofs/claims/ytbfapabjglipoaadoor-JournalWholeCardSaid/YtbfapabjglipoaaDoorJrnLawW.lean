/-
  Layer 10: the law JournalWhole. In whatever memory in which the tables lie. No condition.
-/
import Derived.Test.YtbfapabjglipoaaDoorJrnMathW
namespace Go.Proofs.YtbfapabjglipoaaDoor
open Go Go.RowKit Go.Shelf

theorem i64b {n : Int} (h : (Lit.int .i64 n).wf = true) : -9223372036854775808 ≤ n ∧ n ≤ 9223372036854775807 := by
  have h' : (decide (-9223372036854775808 ≤ n) && decide (n ≤ 9223372036854775807)) = true := h
  simp at h'
  exact h'
/-- What is done to the slab alone. -/
theorem js_left {w : World} {T : Nat → Prop} {g gd : Nat} {s : JrnS} {sd sd' : SlabS} {f : FuncId} {args : Array Value} {r : Ending} (h : JS w T g gd s sd) (hc : ∀ Z, SlabAt w Z gd sd → Calls Tryd.prog f args w fun e w' => e = r ∧ Left Z gd sd' w w') :
    Calls Tryd.prog f args w fun e w' => e = r ∧ JOut T g gd s sd' w w' := by
  have h' := h
  obtain ⟨Y, Z, h1, h2, h3, h4, h5, h6⟩ := h
  refine (hc Z h2).mono ?_
  rintro e w' ⟨he, hl⟩
  exact ⟨he, JOut.of h' h4 h5 (bleft_lay h1 h3 (Below.refl _ _) hl)⟩
theorem js_new {w : World} {T : Nat → Prop} {gd : Nat} {sd : SlabS} {g : Nat} {s : JrnS} (h : JS w T g gd s sd) : ∃ Y Z, JrnAt w Y g gd s ∧ SlabAt w Z gd sd ∧ (∀ i, Y i → ¬ Z i) ∧ (∀ i, Y i → T i) ∧ (∀ i, Z i → T i) := by
  obtain ⟨Y, Z, h1, h2, h3, h4, h5, h6⟩ := h
  exact ⟨Y, Z, h1, h2, h3, h4, h5⟩
theorem js_at {w : World} {T : Nat → Prop} {g gd : Nat} {l : List (List UInt8)} {sd : SlabS} (h : JS w T g gd (jL l) sd) (k : Nat) (hk : k < l.length) (x : List UInt8) (hx : l.getD k [] = x) : Calls Tryd.prog 26 #[.pointer (some ⟨g, 0, none⟩), .int .i64 (k : Int)] w fun e w' => ∃ A' c', e = .returned (.tuple #[.slice A' x.length c', .int .i64 0]) ∧ RdB w' (fun b => b < w'.heap.size) (.slice A' x.length c') x ∧ Below w.heap.size w w' := by
  obtain ⟨Y, Z, h1, h2, h3, h4, h5, h6⟩ := h
  subst hx
  refine (at_any Y g gd (jL l) k hk w h1).mono ?_
  rintro e w' ⟨A', c', he, q1, _, q2⟩
  exact ⟨A', c', he, q1.mono fun i hi => hi.2, q2⟩
def moreB : List UInt8 := [109, 111, 114, 101]
/-- Between two records: all but the last are there; behind the last it may be otherwise. -/
def WholeR (w : World) (g gd n k : Nat) (ps : List (List UInt8)) (p : Int) (wr : World) : Prop :=
  ∃ T s sd, JS wr T g gd s sd ∧ (∀ i, T i → w.heap.size ≤ i) ∧ Below w.heap.size w wr ∧ (k < n → s = jL (ps.take k) ∧ sd = sF 100000 (ps.take k)) ∧ (k = n → sd = (writeJ (jL (ps.take (n - 1))) ((sF 100000 (ps.take (n - 1))).brk p) (ps.getD (n - 1) [])).2.1)
set_option maxRecDepth 100000 in
set_option maxHeartbeats 4000000 in
theorem whole_law (A : Option Addr) (c : Nat) (ps : List (List UInt8)) (p keep : Int) (w : World) (hT : Tables w) (hm : ps.length ≤ 140737488351232) (hr : RdP w (fun b => b < w.heap.size) A ps) (hp : -9223372036854775808 ≤ p ∧ p ≤ 9223372036854775807) :
    Calls Tryd.prog 4 #[.slice A ps.length c, .int .i64 p, .int .i64 keep] w fun e w' => e = .returned (.bool true) ∧ Below w.heap.size w w' := by
  have HT := Lib.hid hT
  have HWR := Lib.hid (writes_any w hT)
  obtain ⟨n, hn⟩ : ∃ n, ps.length = n := ⟨_, rfl⟩
  rw [hn] at hm ⊢
  have HN := Lib.hid hn
  have HR := Lib.hid hr
  have HP := Lib.hid hp
  clear hT hr hn hp
  by_cases h0 : n = 0
  · subst h0
    go_enter Tryd.func4, Tryd.ntmps4
    go_wp2_with (go_at_call 10; refine HWR.out.mono ?_; rintro e W1 ⟨rfl, hb1⟩)
    go_ret
    exact ⟨rfl, hb1⟩
  · have e0 : ((n : Int) == 0) = false := by rw [beq_eq_false_iff_ne]; omega
    by_cases h12 : 12 < n
    · have e1 : decide ((n : Int) > 12) = true := decide_eq_true (by omega)
      go_enter Tryd.func4, Tryd.ntmps4
      go_wp2_with (go_at_call 10; refine HWR.out.mono ?_; rintro e W1 ⟨rfl, hb1⟩)
      go_ret
      exact ⟨rfl, hb1⟩
    · have e1 : decide ((n : Int) > 12) = false := decide_eq_false (by omega)
      have HN12 : Hid (n ≤ 12 ∧ 0 < n) := Lib.hid (by omega)
      have hn12 : n ≤ 12 := by omega
      go_enter Tryd.func4, Tryd.ntmps4
      go_wp2_with (go_at_call 10; refine HWR.out.mono ?_; rintro e W1 ⟨rfl, hb1⟩)
      refine (new_100000 W1).mono ?_
      rintro e W2 ⟨rfl, hd2, hb2⟩
      have hb12 := hb1.trans (hb2.mono hb1.size)
      have HS1 := Lib.hid hb1.size
      dsimp only
      go_wp2_with fail
      refine (js_open (HT.out.below hb12) hd2 (openJ_all 100000 [] 0 (-1) (by simp))).mono ?_
      rintro e W3 ⟨g, T, rfl, hj3, ht3, hT3⟩
      have hb3 : Below w.heap.size w W3 := below_turn hb12 (Nat.le_refl _) ht3 (fun i hi => by rw [hi]; exact HS1.out)
      have HSTART : Hid (WholeR w g W1.heap.size n 0 ps p W3) := Lib.hid ⟨T, _, _, hj3, fun i hi => by
        have := hb12.size
        have := HS1.out
        rcases hT3 i hi with h | h
        · rw [h]; exact HS1.out
        · omega, hb3, fun _ => ⟨rfl, rfl⟩, fun h => by omega⟩
      obtain ⟨gd, hgd⟩ : ∃ gd, W1.heap.size = gd := ⟨_, rfl⟩
      rw [hgd] at HSTART ⊢
      clear hgd hd2 hb2 hb1 hb12 hj3 ht3 hT3 hb3
      dsimp only
      go_wp2_with fail
      go_loopw [48] (fun i wr => ∃ k : Nat, k ≤ n ∧ i = .int .i64 (k : Int) ∧ (∀ d ∈ ps.take k, d.length ≤ 300) ∧ WholeR w g gd n k ps p wr) (fun i _ => n - (intOf i).toNat)
      case atStart => exact ⟨0, Nat.zero_le _, rfl, by simp, HSTART.out⟩
      case round =>
        clear HSTART
        obtain ⟨k, hk, rfl, hl3, hag⟩ := hrel
        by_cases hkn : k < n
        · have hki : (k : Int) < (n : Int) := by omega
          obtain ⟨ad, v, rfl, hok, hcell, hrd⟩ := HR.out k (by rw [HN.out]; exact hkn)
          have hbw : Below w.heap.size w wr := by obtain ⟨_, _, _, _, _, q, _⟩ := hag; exact q
          have hcw := (hbw.cell (p := ad.add k) (by rw [block_add]; exact hok)).trans hcell
          obtain ⟨d, hd⟩ : ∃ d, ps.getD k [] = d := ⟨_, rfl⟩
          have htk : ps.take (k + 1) = ps.take k ++ [d] := by
            have hl : k < ps.length := by rw [HN.out]; exact hkn
            rw [List.take_succ_eq_append_getElem hl, ← hd, List.getD_eq_getElem?_getD, List.getElem?_eq_getElem hl]
            rfl
          have HDK := Lib.hid hd
          rw [hd] at hrd
          obtain ⟨Ae, ce, rfl, _⟩ := id hrd
          obtain ⟨m, hdm⟩ : ∃ m, d.length = m := ⟨_, rfl⟩
          rw [hdm] at hrd hcw
          have HRD := Lib.hid hrd
          have HDM := Lib.hid hdm
          have HTK := Lib.hid htk
          have HL3 := Lib.hid hl3
          clear hcell hrd hd hdm htk hl3
          by_cases h300 : 300 < m
          · have e4 : decide ((m : Int) > 300) = true := decide_eq_true (by omega)
            clear hag
            go_wp2
            go_ret
            exact ⟨rfl, hbw⟩
          · have e4 : decide ((m : Int) > 300) = false := decide_eq_false (by omega)
            have HL4 : Hid (∀ x ∈ ps.take (k + 1), x.length ≤ 300) := Lib.hid fun x hx => by
              rw [HTK.out] at hx
              rcases List.mem_append.1 hx with hx | hx
              · exact HL3.out x hx
              · rw [List.mem_singleton.1 hx, HDM.out]
                omega
            have HDR : Hid (∀ W (T : Nat → Prop), Below w.heap.size w W → (∀ i, T i → w.heap.size ≤ i) → RdB W (fun i => i < W.heap.size ∧ ¬ T i) (.slice Ae m ce) d) := Lib.hid fun W T hb hS => (HRD.out.kept fun i x hi h => (hb.cell (p := i) hi).trans h).mono fun i hi => ⟨Nat.lt_of_lt_of_le hi hb.size, fun h => by have := hS i h; omega⟩
            have HLK : Hid ((ps.take k).length = k ∧ (recsT zeroD (ps.take k)).length ≤ 4020) := Lib.hid (by
              have h1 : (ps.take k).length = k := by rw [List.length_take, HN.out]; omega
              have h2 := recs_le HL3.out
              exact ⟨h1, by omega⟩)
            obtain ⟨T, s, sd, hj, hT, _, hs1, hs2⟩ := hag
            obtain ⟨rfl, rfl⟩ := hs1 hkn
            clear hs1 hs2
            by_cases hlast : k = n - 1
            · have e5 : ((k : Int) == (n : Int) - 1) = true := by rw [beq_iff_eq]; omega
              have e6 : decide ((k : Int) < (n : Int) - 1) = false := decide_eq_false (by omega)
              have HLA := Lib.hid hlast
              clear hlast
              have HBR := Lib.hid (js_left (r := .returned (.tuple #[])) (args := #[.pointer (some ⟨gd, 0, none⟩), .int .i64 p]) hj (fun Z hZ => slabBreak_any Z gd _ p HP.out.1 HP.out.2 wr hZ))
              have HT0 := Lib.hid hT
              have HBW := Lib.hid hbw
              clear hj hT hbw
              go_wp2_with (first
                | (go_at_call 17; refine HBR.out.mono ?_; rintro e W5 ⟨rfl, T5, hj5, ht5, hT5⟩; have hb5 := below_turn HBW.out (Nat.le_refl _) ht5 HT0.out; have hT5' : ∀ i, T5 i → w.heap.size ≤ i := (fun i hi => (hT5 i hi).elim (HT0.out i) (fun h => Nat.le_trans HBW.out.size h)))
                | (go_at_call 16; refine (js_write Ae m ce d (HT.out.below hb5) hj5 (by show (ps.take k).length < 100000000; rw [HLK.out.1]; omega) (HDR.out W5 T5 hb5 hT5')).mono ?_; rintro e W6 ⟨rfl, T6, hj6, ht6, hT6⟩))
              go_roundw
              · refine ⟨k + 1, by omega, by go_num, HL4.out, T6, _, _, hj6, fun i hi => (hT6 i hi).elim (hT5' i) (fun h => Nat.le_trans hb5.size h), below_turn hb5 (Nat.le_refl _) ht6 hT5', fun h => by have := HLA.out; omega, fun h => ?_⟩
                have hlast := HLA.out
                subst hlast
                rw [HDK.out]
              · simp [intOf]
                omega
            · have e5 : ((k : Int) == (n : Int) - 1) = false := by rw [beq_eq_false_iff_ne]; omega
              have e6 : decide ((k : Int) < (n : Int) - 1) = true := decide_eq_true (by omega)
              have HWY : Hid (writeJ (jL (ps.take k)) (sF 100000 (ps.take k)) d = (jL (ps.take (k + 1)), sF 100000 (ps.take (k + 1)), 0)) := Lib.hid (by
                rw [HTK.out]
                have := HLK.out.2
                exact write_yes 100000 _ _ d (by rw [HDM.out]; omega) (by rw [HDM.out]; omega))
              have HWC := Lib.hid (js_write Ae m ce d (HT.out.below hbw) hj (by show (ps.take k).length < 100000000; rw [HLK.out.1]; omega) (HDR.out wr T hbw hT))
              rw [HWY.out] at HWC
              have HT0 := Lib.hid hT
              have HBW := Lib.hid hbw
              clear hj hT hbw
              go_wp2_with (go_at_call 16; refine HWC.out.mono ?_; rintro e W6 ⟨rfl, T6, hj6, ht6, hT6⟩)
              go_roundw
              · exact ⟨k + 1, by omega, by go_num, HL4.out, T6, _, _, hj6, fun i hi => (hT6 i hi).elim (HT0.out i) (fun h => Nat.le_trans HBW.out.size h), below_turn HBW.out (Nat.le_refl _) ht6 HT0.out, fun _ => ⟨rfl, rfl⟩, fun h => by omega⟩
              · simp [intOf]
                omega
        · obtain rfl : k = n := by omega
          obtain ⟨T, s, sd, hj, hT, hbw, _, hs2⟩ := hag
          have hsd := hs2 rfl
          have hk1 : 0 < k := HN12.out.2
          obtain ⟨l0, hl0⟩ : ∃ l0, ps.take (k - 1) = l0 := ⟨_, rfl⟩
          obtain ⟨d0, hd0⟩ : ∃ d0, ps.getD (k - 1) [] = d0 := ⟨_, rfl⟩
          have hps : ps = l0 ++ [d0] := by
            have hl : k - 1 < ps.length := by rw [HN.out]; omega
            have h1 := List.take_succ_eq_append_getElem hl
            rw [show k - 1 + 1 = ps.length by rw [HN.out]; omega, List.take_length] at h1
            rw [← hl0, ← hd0, List.getD_eq_getElem?_getD, List.getElem?_eq_getElem hl]
            exact h1
          have htk : ps.take k = ps := by rw [← HN.out]; exact List.take_length
          rw [htk] at hl3
          have hl03 : ∀ x ∈ l0, x.length ≤ 300 := fun x hx => hl3 x (by rw [hps]; exact List.mem_append_left _ hx)
          have hd3 : d0.length ≤ 300 := hl3 d0 (by rw [hps]; simp)
          have hl0n : l0.length + 1 = k := by rw [← HN.out, hps, List.length_append, List.length_singleton]
          have hrec := recs_le hl03
          rw [hl0, hd0] at hsd
          obtain ⟨m, sure, hcr, hm', hfull⟩ := write_crash 100000 l0 d0 p keep (by omega) (by omega)
          obtain ⟨l1, sure1, hl1, hl1f, hop⟩ := open_part 100000 l0 d0 m sure (fun x hx => by have := hl03 x hx; omega) (by omega) hm'
          have HCR := Lib.hid (js_left (r := .returned (.tuple #[])) (args := #[.pointer (some ⟨gd, 0, none⟩), .int .i64 keep]) hj (fun Z hZ => slabCrash_any Z gd _ keep wr hZ))
          rw [hsd, hcr] at HCR
          obtain ⟨Ln, hLn⟩ : ∃ Ln, l1.length = Ln := ⟨_, rfl⟩
          have HLn := Lib.hid hLn
          have HLC : Hid (Ln + 1 = k ∨ Ln = k) := Lib.hid (by
            rw [← hLn]
            rcases hl1 with h | h
            · left; rw [h]; exact hl0n
            · right; rw [h, List.length_append, List.length_singleton]; exact hl0n)
          have HLF : Hid (p < 0 ∨ 1 < p → Ln = k) := Lib.hid fun h => by rw [← hLn, hl1f (hfull h), List.length_append, List.length_singleton]; exact hl0n
          have HGE : Hid (∀ i, i < Ln → l1.getD i [] = ps.getD i []) := Lib.hid fun i hi => by
            rw [hps]
            rcases hl1 with h | h
            · rw [h, List.getD_eq_getElem?_getD, List.getD_eq_getElem?_getD, List.getElem?_append_left (by rw [← hLn, h] at hi; exact hi)]
            · rw [h]
          have HL1 : Hid (∀ x ∈ l1, x.length ≤ 300) := Lib.hid fun x hx => by
            rcases hl1 with h | h
            · exact hl03 x (h ▸ hx)
            · exact hl3 x (by rw [hps, ← h]; exact hx)
          have HOPN := Lib.hid hop
          have HT0 := Lib.hid hT
          have HBW := Lib.hid hbw
          clear hj hT hbw hs2 hsd hl0 hd0 hps htk hl3 hl03 hd3 hl0n hrec hcr hm' hfull hl1 hl1f hop hLn
          go_wp2_with (go_at_call 19; refine HCR.out.mono ?_; rintro e W5 ⟨rfl, T5, hj5, ht5, hT5⟩)
          have hb5 := below_turn HBW.out (Nat.le_refl _) ht5 HT0.out
          have hT5' : ∀ i, T5 i → w.heap.size ≤ i := (fun i hi => (hT5 i hi).elim (HT0.out i) (fun h => Nat.le_trans HBW.out.size h))
          obtain ⟨Y5, Z5, _, hz5, _, _, hz5T⟩ := js_new hj5
          refine (js_open (HT.out.below hb5) hz5 HOPN.out).mono ?_
          rintro e W6 ⟨g2, T6, rfl, hj6, ht6, hT6⟩
          have HB6 := Lib.hid (below_turn hb5 (Nat.le_refl _) ht6 (fun i hi => hT5' i (hz5T i hi)))
          have HT6 : Hid (∀ i, T6 i → w.heap.size ≤ i) := Lib.hid fun i hi => (hT6 i hi).elim (fun h => hT5' i (hz5T i h)) (fun h => Nat.le_trans hb5.size h)
          have HJ6 := Lib.hid hj6
          have HLEN : Hid (∀ W, Below W6.heap.size W6 W → Calls Tryd.prog 24 #[.pointer (some ⟨g2, 0, none⟩)] W fun e w' => e = .returned (.int .i64 (Ln : Int)) ∧ w' = W) := Lib.hid fun W hb => by
            have := js_lenL (HJ6.out.below hb)
            rw [HLn.out] at this
            exact this
          clear hj5 ht5 hT5 hb5 hT5' hz5 hz5T hj6 ht6 hT6
          have f1 : decide ((Ln : Int) < (k : Int) - 1) = false := decide_eq_false (by have := HLC.out; omega)
          have f2 : decide ((Ln : Int) > (k : Int)) = false := decide_eq_false (by have := HLC.out; omega)
          have f3 : decide (k < Ln) = false := decide_eq_false (by have := HLC.out; omega)
          have kc := fun (W : World) (C : Array Value) (n c : Nat) => Go.Lib.run_convert_bytes_const (P := Tryd.prog) W 42 5 C n c Tryd.underlying42 Tryd.underlying5
          dsimp only
          by_cases hp0 : p < 0
          · have a1 : decide (p < 0) = true := decide_eq_true hp0
            have a2 : decide ((Ln : Int) < (k : Int)) = false := decide_eq_false (by have := HLF.out (.inl hp0); omega)
            have a4 : decide (Ln < k) = false := decide_eq_false (by have := HLF.out (.inl hp0); omega)
            have a3 : decide (p > 1) = false := decide_eq_false (by omega)
            go_upto_region 26 with (go_at_call 24; refine (HLEN.out _ (Below.refl _ _)).mono ?_; rintro e Wn ⟨rfl, rfl⟩)
            clear f1 f2 f3 a1 a2 a3 a4
            go_wp2_with fail
            go_loopw [16] (fun i wx => ∃ q : Nat, q ≤ Ln ∧ i = .int .i64 (q : Int) ∧ Below Wn.heap.size Wn wx) (fun i _ => Ln - (intOf i).toNat)
            case atStart => exact ⟨0, Nat.zero_le _, rfl, Below.refl _ _⟩
            case round =>
              obtain ⟨q, hq, rfl, hbx⟩ := hrel
              by_cases hql : q < Ln
              · have hqi : (q : Int) < (Ln : Int) := by omega
                have hqk : q < k := by have := HLC.out; omega
                have hqk' : (q : Int) < (k : Int) := by omega
                obtain ⟨x, hx⟩ : ∃ x, ps.getD q [] = x := ⟨_, rfl⟩
                have HAT := fun (W : World) hb => js_at (HJ6.out.below (w' := W) hb) q (by rw [HLn.out]; exact hql) x (by rw [HGE.out q hql]; exact hx)
                obtain ⟨ad, v, rfl, hok, hcell, hrd⟩ := HR.out q (by rw [HN.out]; exact hqk)
                rw [hx] at hrd
                obtain ⟨Ae, ce, rfl, _⟩ := id hrd
                have HRD := Lib.hid hrd
                have HCE := Lib.hid hcell
                have HOK : Hid ((ad.add q).block < w.heap.size) := Lib.hid (by rw [block_add]; exact hok)
                have HHAT := Lib.hid HAT
                obtain ⟨m, hm⟩ : ∃ m, x.length = m := ⟨_, rfl⟩
                rw [hm] at HRD HCE HHAT
                clear hx hcell hrd HAT hm
                go_upto_region 30 with (first
                  | (go_at_call 24; refine (HLEN.out _ hbx).mono ?_; rintro e Wm ⟨rfl, rfl⟩)
                  | (go_at_call 26; refine (HHAT.out _ hbx).mono ?_; rintro e W7 ⟨A7, c7, rfl, hr7, hb7⟩))
                have HB7 := Lib.hid (HB6.out.trans ((hbx.trans (hb7.mono hbx.size)).mono HB6.out.size))
                have HR7 := Lib.hid hr7
                have hb67 := hbx.trans (hb7.mono hbx.size)
                have HB67 := Lib.hid hb67
                have hbX : Below W7.heap.size W7 W7.drew := (Below.refl _ _).drew
                have hns : ∀ w', (binOp .neq 9 (.string ⟨x.toArray⟩) (.string ⟨x.toArray⟩)).run Tryd.prog w' = .ok (.bool false) w' := fun w' => by
                  have := neq_str x x w'
                  rw [beq_self_eq_true] at this
                  exact this
                clear hb7 hr7 hb67 hbx
                refine wp_region_held_drew (S := fun W' => Below W7.heap.size W7 W') (by kernel_rfl) ?_ (fun hHeld => ?_)
                · exact hbX
                refine wpAnyH_take (i := 0) (oi := ⟨some 140, _, _, _, _, _⟩) (v := ?_) rfl (by kernel_rfl) (by kernel_rfl) (by kernel_rfl) (fun _ _ _ h => h) (Or.inl ⟨by rfl, ?_⟩) (by assumption) ?_
                rotate_left
                · intro w hSw; (try dsimp only at hSw); go_simp; try (with_reducible rfl)
                rotate_left 0
                try simp only [Act.put, List.setIfInBounds_toArray, List.set_cons_zero, List.set_cons_succ]
                refine wpAnyH_take (i := 1) (oi := ⟨some 141, _, _, _, _, _⟩) (v := ?_) rfl (by kernel_rfl) (by kernel_rfl) (by kernel_rfl) (fun _ _ _ h => h) (Or.inl ⟨by rfl, ?_⟩) (by assumption) ?_
                rotate_left
                · intro w hSw; (try dsimp only at hSw); go_simp; try (with_reducible rfl)
                rotate_left 0
                try simp only [Act.put, List.setIfInBounds_toArray, List.set_cons_zero, List.set_cons_succ]
                refine wpAnyH_take (i := 2) (oi := ⟨some 142, _, _, _, _, _⟩) (v := ?_) rfl (by kernel_rfl) (by kernel_rfl) (by kernel_rfl) (fun _ _ _ h => h) (Or.inl ⟨by rfl, ?_⟩) (by assumption) ?_
                rotate_left
                · intro w hSw; (try dsimp only at hSw); go_simp; try (with_reducible rfl)
                rotate_left 0
                try simp only [Act.put, List.setIfInBounds_toArray, List.set_cons_zero, List.set_cons_succ]
                refine wpAnyH_take (i := 3) (oi := ⟨some 143, _, _, _, _, _⟩) (v := ?_) rfl (by kernel_rfl) (by kernel_rfl) (by kernel_rfl) (fun _ _ _ h => h) (Or.inl ⟨by rfl, ?_⟩) (by assumption) ?_
                rotate_left
                · intro w hSw; (try dsimp only at hSw); go_simp; try (with_reducible rfl)
                rotate_left 0
                try simp only [Act.put, List.setIfInBounds_toArray, List.set_cons_zero, List.set_cons_succ]
                refine wpAnyH_take (i := 4) (oi := ⟨some 144, _, _, _, _, _⟩) (v := (.string ⟨x.toArray⟩)) rfl (by kernel_rfl) (by kernel_rfl) (by kernel_rfl) (fun _ _ _ h => h) (Or.inl ⟨by rfl, fun W' hS => by have hcv := str_rd (HR7.out.kept fun i y hi h => (hS.cell (p := i) hi).trans h); go_simp⟩) (by assumption) ?_
                try simp only [Act.put, List.setIfInBounds_toArray, List.set_cons_zero, List.set_cons_succ]
                refine wpAnyH_take (i := 5) (oi := ⟨some 145, _, _, _, _, _⟩) (v := ?_) rfl (by kernel_rfl) (by kernel_rfl) (by kernel_rfl) (fun _ _ _ h => h) (Or.inl ⟨by rfl, ?_⟩) (by assumption) ?_
                rotate_left
                · intro w hSw; (try dsimp only at hSw); go_simp; try (with_reducible rfl)
                rotate_left 0
                try simp only [Act.put, List.setIfInBounds_toArray, List.set_cons_zero, List.set_cons_succ]
                refine wpAnyH_take (i := 6) (oi := ⟨some 146, _, _, _, _, _⟩) (v := ?_) rfl (by kernel_rfl) (by kernel_rfl) (by kernel_rfl) (fun _ _ _ h => h) (Or.inl ⟨by rfl, ?_⟩) (by assumption) ?_
                rotate_left
                · intro w hSw; (try dsimp only at hSw); go_simp; try (with_reducible rfl)
                rotate_left 0
                try simp only [Act.put, List.setIfInBounds_toArray, List.set_cons_zero, List.set_cons_succ]
                refine wpAnyH_take (i := 7) (oi := ⟨some 147, _, _, _, _, _⟩) (v := ?_) rfl (by kernel_rfl) (by kernel_rfl) (by kernel_rfl) (fun _ _ _ h => h) (Or.inl ⟨by rfl, ?_⟩) (by assumption) ?_
                rotate_left
                · intro w hSw; (try dsimp only at hSw); go_simp; try (with_reducible rfl)
                rotate_left 0
                try simp only [Act.put, List.setIfInBounds_toArray, List.set_cons_zero, List.set_cons_succ]
                refine wpAnyH_take (i := 8) (oi := ⟨some 148, _, _, _, _, _⟩) (v := (.slice Ae m ce)) rfl (by kernel_rfl) (by kernel_rfl) (by kernel_rfl) (fun _ _ _ h => h) (Or.inl ⟨by rfl, fun W' hS => by have hcv := ((HB7.out.trans (hS.mono HB7.out.size)).cell (p := ad.add q) HOK.out).trans HCE.out; go_simp⟩) (by assumption) ?_
                try simp only [Act.put, List.setIfInBounds_toArray, List.set_cons_zero, List.set_cons_succ]
                refine wpAnyH_take (i := 9) (oi := ⟨some 149, _, _, _, _, _⟩) (v := (.string ⟨x.toArray⟩)) rfl (by kernel_rfl) (by kernel_rfl) (by kernel_rfl) (fun _ _ _ h => h) (Or.inl ⟨by rfl, fun W' hS => by have hcv := str_rd (HRD.out.kept fun i y hi h => ((HB7.out.trans (hS.mono HB7.out.size)).cell (p := i) hi).trans h); go_simp⟩) (by assumption) ?_
                try simp only [Act.put, List.setIfInBounds_toArray, List.set_cons_zero, List.set_cons_succ]
                refine wpAnyH_take (i := 10) (oi := ⟨some 150, _, _, _, _, _⟩) (v := ?_) rfl (by kernel_rfl) (by kernel_rfl) (by kernel_rfl) (fun _ _ _ h => h) (Or.inl ⟨by rfl, ?_⟩) (by assumption) ?_
                rotate_left
                · intro w hSw; (try dsimp only at hSw); go_simp; try (with_reducible rfl)
                rotate_left 0
                try simp only [Act.put, List.setIfInBounds_toArray, List.set_cons_zero, List.set_cons_succ]
                refine wpAnyH_take (i := 11) (oi := ⟨some 151, _, _, _, _, _⟩) (v := ?_) rfl (by kernel_rfl) (by kernel_rfl) (by kernel_rfl) (fun _ _ _ h => h) (Or.inl ⟨by rfl, ?_⟩) (by assumption) ?_
                rotate_left
                · intro w hSw; (try dsimp only at hSw); go_simp; try (with_reducible rfl)
                rotate_left 0
                try simp only [Act.put, List.setIfInBounds_toArray, List.set_cons_zero, List.set_cons_succ]
                refine wpAnyH_done (by kernel_rfl) ?_ _
                have HX := Lib.hid (HB67.out.trans (hbX.mono HB67.out.size))
                clear hbX
                go_wp2
                go_roundw
                · exact ⟨q + 1, by omega, by go_num, HX.out⟩
                · simp [intOf]
                  omega
              · obtain rfl : Ln = q := by omega
                have HBm := Lib.hid (HB6.out.trans (hbx.mono HB6.out.size))
                have HJm := Lib.hid (HJ6.out.below hbx)
                go_upto_region 32 with (go_at_call 24; refine (HLEN.out _ hbx).mono ?_; rintro e Wm ⟨rfl, rfl⟩)
                obtain ⟨Y, Z, hjY, hz, hYZ, hYT, hZT⟩ := js_new HJm.out
                have HYB := Lib.hid hjY.blocks
                have HOP2 := Lib.hid (js_open (HT.out.below HBm.out) hz (openJ_all 100000 l1 sure1 (-1) (fun x hx => by have := HL1.out x hx; omega)))
                clear hz hbx
                go_upto_region 33 with (go_at_call 13; refine HOP2.out.mono ?_; rintro e W8 ⟨g3, T8, rfl, hj8, ht8, hT8⟩)
                have HB8 := Lib.hid (below_turn HBm.out (Nat.le_refl _) ht8 (fun i hi => HT6.out i (hZT i hi)))
                have HY8 := Lib.hid (hjY.turn ht8 hYZ)
                have HYT8 : Hid (∀ i, Y i → ¬ T8 i) := Lib.hid fun i hy ht => by
                  rcases hT8 i ht with h | h
                  · exact hYZ i hy h
                  · have := HYB.out i hy
                    omega
                have HT8 : Hid (∀ i, T8 i → w.heap.size ≤ i) := Lib.hid fun i hi => (hT8 i hi).elim (fun h => HT6.out i (hZT i h)) (fun h => Nat.le_trans HBm.out.size h)
                have HJ8 : Hid (JS W8 T8 g3 gd (jL l1) (sL 100000 l1 sure1)) := Lib.hid hj8
                have HLG3 : Hid (Calls Tryd.prog 24 #[.pointer (some ⟨g3, 0, none⟩)] W8 fun e w' => e = .returned (.int .i64 (Ln : Int)) ∧ w' = W8) := Lib.hid (by
                  have := js_lenL HJ8.out
                  rw [HLn.out] at this
                  exact this)
                have HLG2 : Hid (∀ W, JrnAt W Y g2 gd (jL l1) → Calls Tryd.prog 24 #[.pointer (some ⟨g2, 0, none⟩)] W fun e w' => e = .returned (.int .i64 (Ln : Int)) ∧ w' = W) := Lib.hid fun W h => by
                  have := len_any Y g2 gd (jL l1) W h
                  rw [show (jL l1).recs.length = Ln from HLn.out] at this
                  exact this
                clear hjY hYZ hYT hZT hj8 ht8 hT8 HOP2
                go_wp2_with (first
                  | (go_at_call 24; guard_target = Calls _ _ #[Value.pointer (some ⟨g3, 0, none⟩)] _ _; refine HLG3.out.mono ?_; rintro e Wa ⟨rfl, rfl⟩)
                  | (go_at_call 24; guard_target = Calls _ _ #[Value.pointer (some ⟨g2, 0, none⟩)] _ _; refine (HLG2.out _ HY8.out).mono ?_; rintro e Wb ⟨rfl, rfl⟩))
                generalize hW : World.alloc Wb _ = W9
                have hrd := rd_const (w := Wb) (W := W9) moreB 4 rfl (by omega) _ hW
                have hb9 : Below Wb.heap.size Wb W9 := by rw [← hW]; exact (Below.refl _ _).alloc (Nat.le_refl _) _
                have hlt : Wb.heap.size < W9.heap.size := by rw [← hW]; simp
                have HB9 := Lib.hid (HB8.out.trans (hb9.mono HB8.out.size))
                have HWM := Lib.hid (js_write _ 4 4 moreB (HT.out.below HB9.out) (HJ8.out.below hb9) (by show l1.length < 100000000; rw [HLn.out]; have := HLC.out; omega) (hrd.mono fun i hi => ⟨by rw [hi]; exact hlt, fun h => by have := HJ8.out.lt i h; omega⟩))
                rw [write_yes 100000 l1 sure1 moreB (by decide) (by have := recs_le HL1.out; have h1 := HLn.out; have h2 := HLC.out; have h3 : moreB.length = 4 := rfl; omega)] at HWM
                have HY9 := Lib.hid (HY8.out.below hb9)
                clear hW hrd hb9 hlt kc
                refine HWM.out.mono ?_
                rintro e W10 ⟨rfl, T10, hj10, ht10, hT10⟩
                have HB10 := Lib.hid (below_turn HB9.out (Nat.le_refl _) ht10 HT8.out)
                have HY10 := Lib.hid (HY9.out.turn ht10 HYT8.out)
                have HAT : Hid (Calls Tryd.prog 26 #[.pointer (some ⟨g3, 0, none⟩), .int .i64 (Ln : Int)] W10 fun e w' => ∃ A' c', e = .returned (.tuple #[.slice A' 4 c', .int .i64 0]) ∧ RdB w' (fun b => b < w'.heap.size) (.slice A' 4 c') moreB ∧ Below W10.heap.size W10 w') := Lib.hid (js_at hj10 Ln (by rw [List.length_append, HLn.out]; simp) moreB (by rw [List.getD_eq_getElem?_getD, List.getElem?_append_right (by rw [HLn.out]; exact Nat.le_refl _), HLn.out, Nat.sub_self]; rfl))
                have hstr : ∀ w', (binOp .eql 9 (.string ⟨moreB.toArray⟩) (.string { data := #[109, 111, 114, 101] })).run Tryd.prog w' = .ok (.bool true) w' := fun w' => eql_str moreB moreB w'
                clear hj10 ht10 hT10 HWM
                dsimp only
                go_wp2_with (first
                  | (go_at_call 24; refine (HLG2.out _ HY10.out).mono ?_; rintro e Wc ⟨rfl, rfl⟩)
                  | (go_at_call 26; refine HAT.out.mono ?_; rintro e W11 ⟨A11, c11, rfl, hr11, hb11⟩; have hcs := str_rd hr11))
                go_ret
                exact ⟨rfl, HB10.out.trans (hb11.mono HB10.out.size)⟩
          · by_cases hp1 : 1 < p
            · have a1 : decide (p < 0) = false := decide_eq_false hp0
              have a2 : decide ((Ln : Int) < (k : Int)) = false := decide_eq_false (by have := HLF.out (.inr hp1); omega)
              have a4 : decide (Ln < k) = false := decide_eq_false (by have := HLF.out (.inr hp1); omega)
              have a3 : decide (p > 1) = true := decide_eq_true hp1
              go_upto_region 26 with (go_at_call 24; refine (HLEN.out _ (Below.refl _ _)).mono ?_; rintro e Wn ⟨rfl, rfl⟩)
              clear f1 f2 f3 a1 a2 a3 a4
              go_wp2_with fail
              go_loopw [16] (fun i wx => ∃ q : Nat, q ≤ Ln ∧ i = .int .i64 (q : Int) ∧ Below Wn.heap.size Wn wx) (fun i _ => Ln - (intOf i).toNat)
              case atStart => exact ⟨0, Nat.zero_le _, rfl, Below.refl _ _⟩
              case round =>
                obtain ⟨q, hq, rfl, hbx⟩ := hrel
                by_cases hql : q < Ln
                · have hqi : (q : Int) < (Ln : Int) := by omega
                  have hqk : q < k := by have := HLC.out; omega
                  have hqk' : (q : Int) < (k : Int) := by omega
                  obtain ⟨x, hx⟩ : ∃ x, ps.getD q [] = x := ⟨_, rfl⟩
                  have HAT := fun (W : World) hb => js_at (HJ6.out.below (w' := W) hb) q (by rw [HLn.out]; exact hql) x (by rw [HGE.out q hql]; exact hx)
                  obtain ⟨ad, v, rfl, hok, hcell, hrd⟩ := HR.out q (by rw [HN.out]; exact hqk)
                  rw [hx] at hrd
                  obtain ⟨Ae, ce, rfl, _⟩ := id hrd
                  have HRD := Lib.hid hrd
                  have HCE := Lib.hid hcell
                  have HOK : Hid ((ad.add q).block < w.heap.size) := Lib.hid (by rw [block_add]; exact hok)
                  have HHAT := Lib.hid HAT
                  obtain ⟨m, hm⟩ : ∃ m, x.length = m := ⟨_, rfl⟩
                  rw [hm] at HRD HCE HHAT
                  clear hx hcell hrd HAT hm
                  go_upto_region 30 with (first
                    | (go_at_call 24; refine (HLEN.out _ hbx).mono ?_; rintro e Wm ⟨rfl, rfl⟩)
                    | (go_at_call 26; refine (HHAT.out _ hbx).mono ?_; rintro e W7 ⟨A7, c7, rfl, hr7, hb7⟩))
                  have HB7 := Lib.hid (HB6.out.trans ((hbx.trans (hb7.mono hbx.size)).mono HB6.out.size))
                  have HR7 := Lib.hid hr7
                  have hb67 := hbx.trans (hb7.mono hbx.size)
                  have HB67 := Lib.hid hb67
                  have hbX : Below W7.heap.size W7 W7.drew := (Below.refl _ _).drew
                  have hns : ∀ w', (binOp .neq 9 (.string ⟨x.toArray⟩) (.string ⟨x.toArray⟩)).run Tryd.prog w' = .ok (.bool false) w' := fun w' => by
                    have := neq_str x x w'
                    rw [beq_self_eq_true] at this
                    exact this
                  clear hb7 hr7 hb67 hbx
                  refine wp_region_held_drew (S := fun W' => Below W7.heap.size W7 W') (by kernel_rfl) ?_ (fun hHeld => ?_)
                  · exact hbX
                  refine wpAnyH_take (i := 0) (oi := ⟨some 140, _, _, _, _, _⟩) (v := ?_) rfl (by kernel_rfl) (by kernel_rfl) (by kernel_rfl) (fun _ _ _ h => h) (Or.inl ⟨by rfl, ?_⟩) (by assumption) ?_
                  rotate_left
                  · intro w hSw; (try dsimp only at hSw); go_simp; try (with_reducible rfl)
                  rotate_left 0
                  try simp only [Act.put, List.setIfInBounds_toArray, List.set_cons_zero, List.set_cons_succ]
                  refine wpAnyH_take (i := 1) (oi := ⟨some 141, _, _, _, _, _⟩) (v := ?_) rfl (by kernel_rfl) (by kernel_rfl) (by kernel_rfl) (fun _ _ _ h => h) (Or.inl ⟨by rfl, ?_⟩) (by assumption) ?_
                  rotate_left
                  · intro w hSw; (try dsimp only at hSw); go_simp; try (with_reducible rfl)
                  rotate_left 0
                  try simp only [Act.put, List.setIfInBounds_toArray, List.set_cons_zero, List.set_cons_succ]
                  refine wpAnyH_take (i := 2) (oi := ⟨some 142, _, _, _, _, _⟩) (v := ?_) rfl (by kernel_rfl) (by kernel_rfl) (by kernel_rfl) (fun _ _ _ h => h) (Or.inl ⟨by rfl, ?_⟩) (by assumption) ?_
                  rotate_left
                  · intro w hSw; (try dsimp only at hSw); go_simp; try (with_reducible rfl)
                  rotate_left 0
                  try simp only [Act.put, List.setIfInBounds_toArray, List.set_cons_zero, List.set_cons_succ]
                  refine wpAnyH_take (i := 3) (oi := ⟨some 143, _, _, _, _, _⟩) (v := ?_) rfl (by kernel_rfl) (by kernel_rfl) (by kernel_rfl) (fun _ _ _ h => h) (Or.inl ⟨by rfl, ?_⟩) (by assumption) ?_
                  rotate_left
                  · intro w hSw; (try dsimp only at hSw); go_simp; try (with_reducible rfl)
                  rotate_left 0
                  try simp only [Act.put, List.setIfInBounds_toArray, List.set_cons_zero, List.set_cons_succ]
                  refine wpAnyH_take (i := 4) (oi := ⟨some 144, _, _, _, _, _⟩) (v := (.string ⟨x.toArray⟩)) rfl (by kernel_rfl) (by kernel_rfl) (by kernel_rfl) (fun _ _ _ h => h) (Or.inl ⟨by rfl, fun W' hS => by have hcv := str_rd (HR7.out.kept fun i y hi h => (hS.cell (p := i) hi).trans h); go_simp⟩) (by assumption) ?_
                  try simp only [Act.put, List.setIfInBounds_toArray, List.set_cons_zero, List.set_cons_succ]
                  refine wpAnyH_take (i := 5) (oi := ⟨some 145, _, _, _, _, _⟩) (v := ?_) rfl (by kernel_rfl) (by kernel_rfl) (by kernel_rfl) (fun _ _ _ h => h) (Or.inl ⟨by rfl, ?_⟩) (by assumption) ?_
                  rotate_left
                  · intro w hSw; (try dsimp only at hSw); go_simp; try (with_reducible rfl)
                  rotate_left 0
                  try simp only [Act.put, List.setIfInBounds_toArray, List.set_cons_zero, List.set_cons_succ]
                  refine wpAnyH_take (i := 6) (oi := ⟨some 146, _, _, _, _, _⟩) (v := ?_) rfl (by kernel_rfl) (by kernel_rfl) (by kernel_rfl) (fun _ _ _ h => h) (Or.inl ⟨by rfl, ?_⟩) (by assumption) ?_
                  rotate_left
                  · intro w hSw; (try dsimp only at hSw); go_simp; try (with_reducible rfl)
                  rotate_left 0
                  try simp only [Act.put, List.setIfInBounds_toArray, List.set_cons_zero, List.set_cons_succ]
                  refine wpAnyH_take (i := 7) (oi := ⟨some 147, _, _, _, _, _⟩) (v := ?_) rfl (by kernel_rfl) (by kernel_rfl) (by kernel_rfl) (fun _ _ _ h => h) (Or.inl ⟨by rfl, ?_⟩) (by assumption) ?_
                  rotate_left
                  · intro w hSw; (try dsimp only at hSw); go_simp; try (with_reducible rfl)
                  rotate_left 0
                  try simp only [Act.put, List.setIfInBounds_toArray, List.set_cons_zero, List.set_cons_succ]
                  refine wpAnyH_take (i := 8) (oi := ⟨some 148, _, _, _, _, _⟩) (v := (.slice Ae m ce)) rfl (by kernel_rfl) (by kernel_rfl) (by kernel_rfl) (fun _ _ _ h => h) (Or.inl ⟨by rfl, fun W' hS => by have hcv := ((HB7.out.trans (hS.mono HB7.out.size)).cell (p := ad.add q) HOK.out).trans HCE.out; go_simp⟩) (by assumption) ?_
                  try simp only [Act.put, List.setIfInBounds_toArray, List.set_cons_zero, List.set_cons_succ]
                  refine wpAnyH_take (i := 9) (oi := ⟨some 149, _, _, _, _, _⟩) (v := (.string ⟨x.toArray⟩)) rfl (by kernel_rfl) (by kernel_rfl) (by kernel_rfl) (fun _ _ _ h => h) (Or.inl ⟨by rfl, fun W' hS => by have hcv := str_rd (HRD.out.kept fun i y hi h => ((HB7.out.trans (hS.mono HB7.out.size)).cell (p := i) hi).trans h); go_simp⟩) (by assumption) ?_
                  try simp only [Act.put, List.setIfInBounds_toArray, List.set_cons_zero, List.set_cons_succ]
                  refine wpAnyH_take (i := 10) (oi := ⟨some 150, _, _, _, _, _⟩) (v := ?_) rfl (by kernel_rfl) (by kernel_rfl) (by kernel_rfl) (fun _ _ _ h => h) (Or.inl ⟨by rfl, ?_⟩) (by assumption) ?_
                  rotate_left
                  · intro w hSw; (try dsimp only at hSw); go_simp; try (with_reducible rfl)
                  rotate_left 0
                  try simp only [Act.put, List.setIfInBounds_toArray, List.set_cons_zero, List.set_cons_succ]
                  refine wpAnyH_take (i := 11) (oi := ⟨some 151, _, _, _, _, _⟩) (v := ?_) rfl (by kernel_rfl) (by kernel_rfl) (by kernel_rfl) (fun _ _ _ h => h) (Or.inl ⟨by rfl, ?_⟩) (by assumption) ?_
                  rotate_left
                  · intro w hSw; (try dsimp only at hSw); go_simp; try (with_reducible rfl)
                  rotate_left 0
                  try simp only [Act.put, List.setIfInBounds_toArray, List.set_cons_zero, List.set_cons_succ]
                  refine wpAnyH_done (by kernel_rfl) ?_ _
                  have HX := Lib.hid (HB67.out.trans (hbX.mono HB67.out.size))
                  clear hbX
                  go_wp2
                  go_roundw
                  · exact ⟨q + 1, by omega, by go_num, HX.out⟩
                  · simp [intOf]
                    omega
                · obtain rfl : Ln = q := by omega
                  have HBm := Lib.hid (HB6.out.trans (hbx.mono HB6.out.size))
                  have HJm := Lib.hid (HJ6.out.below hbx)
                  go_upto_region 32 with (go_at_call 24; refine (HLEN.out _ hbx).mono ?_; rintro e Wm ⟨rfl, rfl⟩)
                  obtain ⟨Y, Z, hjY, hz, hYZ, hYT, hZT⟩ := js_new HJm.out
                  have HYB := Lib.hid hjY.blocks
                  have HOP2 := Lib.hid (js_open (HT.out.below HBm.out) hz (openJ_all 100000 l1 sure1 (-1) (fun x hx => by have := HL1.out x hx; omega)))
                  clear hz hbx
                  go_upto_region 33 with (go_at_call 13; refine HOP2.out.mono ?_; rintro e W8 ⟨g3, T8, rfl, hj8, ht8, hT8⟩)
                  have HB8 := Lib.hid (below_turn HBm.out (Nat.le_refl _) ht8 (fun i hi => HT6.out i (hZT i hi)))
                  have HY8 := Lib.hid (hjY.turn ht8 hYZ)
                  have HYT8 : Hid (∀ i, Y i → ¬ T8 i) := Lib.hid fun i hy ht => by
                    rcases hT8 i ht with h | h
                    · exact hYZ i hy h
                    · have := HYB.out i hy
                      omega
                  have HT8 : Hid (∀ i, T8 i → w.heap.size ≤ i) := Lib.hid fun i hi => (hT8 i hi).elim (fun h => HT6.out i (hZT i h)) (fun h => Nat.le_trans HBm.out.size h)
                  have HJ8 : Hid (JS W8 T8 g3 gd (jL l1) (sL 100000 l1 sure1)) := Lib.hid hj8
                  have HLG3 : Hid (Calls Tryd.prog 24 #[.pointer (some ⟨g3, 0, none⟩)] W8 fun e w' => e = .returned (.int .i64 (Ln : Int)) ∧ w' = W8) := Lib.hid (by
                    have := js_lenL HJ8.out
                    rw [HLn.out] at this
                    exact this)
                  have HLG2 : Hid (∀ W, JrnAt W Y g2 gd (jL l1) → Calls Tryd.prog 24 #[.pointer (some ⟨g2, 0, none⟩)] W fun e w' => e = .returned (.int .i64 (Ln : Int)) ∧ w' = W) := Lib.hid fun W h => by
                    have := len_any Y g2 gd (jL l1) W h
                    rw [show (jL l1).recs.length = Ln from HLn.out] at this
                    exact this
                  clear hjY hYZ hYT hZT hj8 ht8 hT8 HOP2
                  go_wp2_with (first
                    | (go_at_call 24; guard_target = Calls _ _ #[Value.pointer (some ⟨g3, 0, none⟩)] _ _; refine HLG3.out.mono ?_; rintro e Wa ⟨rfl, rfl⟩)
                    | (go_at_call 24; guard_target = Calls _ _ #[Value.pointer (some ⟨g2, 0, none⟩)] _ _; refine (HLG2.out _ HY8.out).mono ?_; rintro e Wb ⟨rfl, rfl⟩))
                  generalize hW : World.alloc Wb _ = W9
                  have hrd := rd_const (w := Wb) (W := W9) moreB 4 rfl (by omega) _ hW
                  have hb9 : Below Wb.heap.size Wb W9 := by rw [← hW]; exact (Below.refl _ _).alloc (Nat.le_refl _) _
                  have hlt : Wb.heap.size < W9.heap.size := by rw [← hW]; simp
                  have HB9 := Lib.hid (HB8.out.trans (hb9.mono HB8.out.size))
                  have HWM := Lib.hid (js_write _ 4 4 moreB (HT.out.below HB9.out) (HJ8.out.below hb9) (by show l1.length < 100000000; rw [HLn.out]; have := HLC.out; omega) (hrd.mono fun i hi => ⟨by rw [hi]; exact hlt, fun h => by have := HJ8.out.lt i h; omega⟩))
                  rw [write_yes 100000 l1 sure1 moreB (by decide) (by have := recs_le HL1.out; have h1 := HLn.out; have h2 := HLC.out; have h3 : moreB.length = 4 := rfl; omega)] at HWM
                  have HY9 := Lib.hid (HY8.out.below hb9)
                  clear hW hrd hb9 hlt kc
                  refine HWM.out.mono ?_
                  rintro e W10 ⟨rfl, T10, hj10, ht10, hT10⟩
                  have HB10 := Lib.hid (below_turn HB9.out (Nat.le_refl _) ht10 HT8.out)
                  have HY10 := Lib.hid (HY9.out.turn ht10 HYT8.out)
                  have HAT : Hid (Calls Tryd.prog 26 #[.pointer (some ⟨g3, 0, none⟩), .int .i64 (Ln : Int)] W10 fun e w' => ∃ A' c', e = .returned (.tuple #[.slice A' 4 c', .int .i64 0]) ∧ RdB w' (fun b => b < w'.heap.size) (.slice A' 4 c') moreB ∧ Below W10.heap.size W10 w') := Lib.hid (js_at hj10 Ln (by rw [List.length_append, HLn.out]; simp) moreB (by rw [List.getD_eq_getElem?_getD, List.getElem?_append_right (by rw [HLn.out]; exact Nat.le_refl _), HLn.out, Nat.sub_self]; rfl))
                  have hstr : ∀ w', (binOp .eql 9 (.string ⟨moreB.toArray⟩) (.string { data := #[109, 111, 114, 101] })).run Tryd.prog w' = .ok (.bool true) w' := fun w' => eql_str moreB moreB w'
                  clear hj10 ht10 hT10 HWM
                  dsimp only
                  go_wp2_with (first
                    | (go_at_call 24; refine (HLG2.out _ HY10.out).mono ?_; rintro e Wc ⟨rfl, rfl⟩)
                    | (go_at_call 26; refine HAT.out.mono ?_; rintro e W11 ⟨A11, c11, rfl, hr11, hb11⟩; have hcs := str_rd hr11))
                  go_ret
                  exact ⟨rfl, HB10.out.trans (hb11.mono HB10.out.size)⟩
            · have a1 : decide (p < 0) = false := decide_eq_false hp0
              have a3 : decide (p > 1) = false := decide_eq_false hp1
              go_upto_region 26 with (go_at_call 24; refine (HLEN.out _ (Below.refl _ _)).mono ?_; rintro e Wn ⟨rfl, rfl⟩)
              clear f1 f2 f3 a1 a3
              go_wp2_with fail
              go_loopw [16] (fun i wx => ∃ q : Nat, q ≤ Ln ∧ i = .int .i64 (q : Int) ∧ Below Wn.heap.size Wn wx) (fun i _ => Ln - (intOf i).toNat)
              case atStart => exact ⟨0, Nat.zero_le _, rfl, Below.refl _ _⟩
              case round =>
                obtain ⟨q, hq, rfl, hbx⟩ := hrel
                by_cases hql : q < Ln
                · have hqi : (q : Int) < (Ln : Int) := by omega
                  have hqk : q < k := by have := HLC.out; omega
                  have hqk' : (q : Int) < (k : Int) := by omega
                  obtain ⟨x, hx⟩ : ∃ x, ps.getD q [] = x := ⟨_, rfl⟩
                  have HAT := fun (W : World) hb => js_at (HJ6.out.below (w' := W) hb) q (by rw [HLn.out]; exact hql) x (by rw [HGE.out q hql]; exact hx)
                  obtain ⟨ad, v, rfl, hok, hcell, hrd⟩ := HR.out q (by rw [HN.out]; exact hqk)
                  rw [hx] at hrd
                  obtain ⟨Ae, ce, rfl, _⟩ := id hrd
                  have HRD := Lib.hid hrd
                  have HCE := Lib.hid hcell
                  have HOK : Hid ((ad.add q).block < w.heap.size) := Lib.hid (by rw [block_add]; exact hok)
                  have HHAT := Lib.hid HAT
                  obtain ⟨m, hm⟩ : ∃ m, x.length = m := ⟨_, rfl⟩
                  rw [hm] at HRD HCE HHAT
                  clear hx hcell hrd HAT hm
                  go_upto_region 30 with (first
                    | (go_at_call 24; refine (HLEN.out _ hbx).mono ?_; rintro e Wm ⟨rfl, rfl⟩)
                    | (go_at_call 26; refine (HHAT.out _ hbx).mono ?_; rintro e W7 ⟨A7, c7, rfl, hr7, hb7⟩))
                  have HB7 := Lib.hid (HB6.out.trans ((hbx.trans (hb7.mono hbx.size)).mono HB6.out.size))
                  have HR7 := Lib.hid hr7
                  have hb67 := hbx.trans (hb7.mono hbx.size)
                  have HB67 := Lib.hid hb67
                  have hbX : Below W7.heap.size W7 W7.drew := (Below.refl _ _).drew
                  have hns : ∀ w', (binOp .neq 9 (.string ⟨x.toArray⟩) (.string ⟨x.toArray⟩)).run Tryd.prog w' = .ok (.bool false) w' := fun w' => by
                    have := neq_str x x w'
                    rw [beq_self_eq_true] at this
                    exact this
                  clear hb7 hr7 hb67 hbx
                  refine wp_region_held_drew (S := fun W' => Below W7.heap.size W7 W') (by kernel_rfl) ?_ (fun hHeld => ?_)
                  · exact hbX
                  refine wpAnyH_take (i := 0) (oi := ⟨some 140, _, _, _, _, _⟩) (v := ?_) rfl (by kernel_rfl) (by kernel_rfl) (by kernel_rfl) (fun _ _ _ h => h) (Or.inl ⟨by rfl, ?_⟩) (by assumption) ?_
                  rotate_left
                  · intro w hSw; (try dsimp only at hSw); go_simp; try (with_reducible rfl)
                  rotate_left 0
                  try simp only [Act.put, List.setIfInBounds_toArray, List.set_cons_zero, List.set_cons_succ]
                  refine wpAnyH_take (i := 1) (oi := ⟨some 141, _, _, _, _, _⟩) (v := ?_) rfl (by kernel_rfl) (by kernel_rfl) (by kernel_rfl) (fun _ _ _ h => h) (Or.inl ⟨by rfl, ?_⟩) (by assumption) ?_
                  rotate_left
                  · intro w hSw; (try dsimp only at hSw); go_simp; try (with_reducible rfl)
                  rotate_left 0
                  try simp only [Act.put, List.setIfInBounds_toArray, List.set_cons_zero, List.set_cons_succ]
                  refine wpAnyH_take (i := 2) (oi := ⟨some 142, _, _, _, _, _⟩) (v := ?_) rfl (by kernel_rfl) (by kernel_rfl) (by kernel_rfl) (fun _ _ _ h => h) (Or.inl ⟨by rfl, ?_⟩) (by assumption) ?_
                  rotate_left
                  · intro w hSw; (try dsimp only at hSw); go_simp; try (with_reducible rfl)
                  rotate_left 0
                  try simp only [Act.put, List.setIfInBounds_toArray, List.set_cons_zero, List.set_cons_succ]
                  refine wpAnyH_take (i := 3) (oi := ⟨some 143, _, _, _, _, _⟩) (v := ?_) rfl (by kernel_rfl) (by kernel_rfl) (by kernel_rfl) (fun _ _ _ h => h) (Or.inl ⟨by rfl, ?_⟩) (by assumption) ?_
                  rotate_left
                  · intro w hSw; (try dsimp only at hSw); go_simp; try (with_reducible rfl)
                  rotate_left 0
                  try simp only [Act.put, List.setIfInBounds_toArray, List.set_cons_zero, List.set_cons_succ]
                  refine wpAnyH_take (i := 4) (oi := ⟨some 144, _, _, _, _, _⟩) (v := (.string ⟨x.toArray⟩)) rfl (by kernel_rfl) (by kernel_rfl) (by kernel_rfl) (fun _ _ _ h => h) (Or.inl ⟨by rfl, fun W' hS => by have hcv := str_rd (HR7.out.kept fun i y hi h => (hS.cell (p := i) hi).trans h); go_simp⟩) (by assumption) ?_
                  try simp only [Act.put, List.setIfInBounds_toArray, List.set_cons_zero, List.set_cons_succ]
                  refine wpAnyH_take (i := 5) (oi := ⟨some 145, _, _, _, _, _⟩) (v := ?_) rfl (by kernel_rfl) (by kernel_rfl) (by kernel_rfl) (fun _ _ _ h => h) (Or.inl ⟨by rfl, ?_⟩) (by assumption) ?_
                  rotate_left
                  · intro w hSw; (try dsimp only at hSw); go_simp; try (with_reducible rfl)
                  rotate_left 0
                  try simp only [Act.put, List.setIfInBounds_toArray, List.set_cons_zero, List.set_cons_succ]
                  refine wpAnyH_take (i := 6) (oi := ⟨some 146, _, _, _, _, _⟩) (v := ?_) rfl (by kernel_rfl) (by kernel_rfl) (by kernel_rfl) (fun _ _ _ h => h) (Or.inl ⟨by rfl, ?_⟩) (by assumption) ?_
                  rotate_left
                  · intro w hSw; (try dsimp only at hSw); go_simp; try (with_reducible rfl)
                  rotate_left 0
                  try simp only [Act.put, List.setIfInBounds_toArray, List.set_cons_zero, List.set_cons_succ]
                  refine wpAnyH_take (i := 7) (oi := ⟨some 147, _, _, _, _, _⟩) (v := ?_) rfl (by kernel_rfl) (by kernel_rfl) (by kernel_rfl) (fun _ _ _ h => h) (Or.inl ⟨by rfl, ?_⟩) (by assumption) ?_
                  rotate_left
                  · intro w hSw; (try dsimp only at hSw); go_simp; try (with_reducible rfl)
                  rotate_left 0
                  try simp only [Act.put, List.setIfInBounds_toArray, List.set_cons_zero, List.set_cons_succ]
                  refine wpAnyH_take (i := 8) (oi := ⟨some 148, _, _, _, _, _⟩) (v := (.slice Ae m ce)) rfl (by kernel_rfl) (by kernel_rfl) (by kernel_rfl) (fun _ _ _ h => h) (Or.inl ⟨by rfl, fun W' hS => by have hcv := ((HB7.out.trans (hS.mono HB7.out.size)).cell (p := ad.add q) HOK.out).trans HCE.out; go_simp⟩) (by assumption) ?_
                  try simp only [Act.put, List.setIfInBounds_toArray, List.set_cons_zero, List.set_cons_succ]
                  refine wpAnyH_take (i := 9) (oi := ⟨some 149, _, _, _, _, _⟩) (v := (.string ⟨x.toArray⟩)) rfl (by kernel_rfl) (by kernel_rfl) (by kernel_rfl) (fun _ _ _ h => h) (Or.inl ⟨by rfl, fun W' hS => by have hcv := str_rd (HRD.out.kept fun i y hi h => ((HB7.out.trans (hS.mono HB7.out.size)).cell (p := i) hi).trans h); go_simp⟩) (by assumption) ?_
                  try simp only [Act.put, List.setIfInBounds_toArray, List.set_cons_zero, List.set_cons_succ]
                  refine wpAnyH_take (i := 10) (oi := ⟨some 150, _, _, _, _, _⟩) (v := ?_) rfl (by kernel_rfl) (by kernel_rfl) (by kernel_rfl) (fun _ _ _ h => h) (Or.inl ⟨by rfl, ?_⟩) (by assumption) ?_
                  rotate_left
                  · intro w hSw; (try dsimp only at hSw); go_simp; try (with_reducible rfl)
                  rotate_left 0
                  try simp only [Act.put, List.setIfInBounds_toArray, List.set_cons_zero, List.set_cons_succ]
                  refine wpAnyH_take (i := 11) (oi := ⟨some 151, _, _, _, _, _⟩) (v := ?_) rfl (by kernel_rfl) (by kernel_rfl) (by kernel_rfl) (fun _ _ _ h => h) (Or.inl ⟨by rfl, ?_⟩) (by assumption) ?_
                  rotate_left
                  · intro w hSw; (try dsimp only at hSw); go_simp; try (with_reducible rfl)
                  rotate_left 0
                  try simp only [Act.put, List.setIfInBounds_toArray, List.set_cons_zero, List.set_cons_succ]
                  refine wpAnyH_done (by kernel_rfl) ?_ _
                  have HX := Lib.hid (HB67.out.trans (hbX.mono HB67.out.size))
                  clear hbX
                  go_wp2
                  go_roundw
                  · exact ⟨q + 1, by omega, by go_num, HX.out⟩
                  · simp [intOf]
                    omega
                · obtain rfl : Ln = q := by omega
                  have HBm := Lib.hid (HB6.out.trans (hbx.mono HB6.out.size))
                  have HJm := Lib.hid (HJ6.out.below hbx)
                  go_upto_region 32 with (go_at_call 24; refine (HLEN.out _ hbx).mono ?_; rintro e Wm ⟨rfl, rfl⟩)
                  obtain ⟨Y, Z, hjY, hz, hYZ, hYT, hZT⟩ := js_new HJm.out
                  have HYB := Lib.hid hjY.blocks
                  have HOP2 := Lib.hid (js_open (HT.out.below HBm.out) hz (openJ_all 100000 l1 sure1 (-1) (fun x hx => by have := HL1.out x hx; omega)))
                  clear hz hbx
                  go_upto_region 33 with (go_at_call 13; refine HOP2.out.mono ?_; rintro e W8 ⟨g3, T8, rfl, hj8, ht8, hT8⟩)
                  have HB8 := Lib.hid (below_turn HBm.out (Nat.le_refl _) ht8 (fun i hi => HT6.out i (hZT i hi)))
                  have HY8 := Lib.hid (hjY.turn ht8 hYZ)
                  have HYT8 : Hid (∀ i, Y i → ¬ T8 i) := Lib.hid fun i hy ht => by
                    rcases hT8 i ht with h | h
                    · exact hYZ i hy h
                    · have := HYB.out i hy
                      omega
                  have HT8 : Hid (∀ i, T8 i → w.heap.size ≤ i) := Lib.hid fun i hi => (hT8 i hi).elim (fun h => HT6.out i (hZT i h)) (fun h => Nat.le_trans HBm.out.size h)
                  have HJ8 : Hid (JS W8 T8 g3 gd (jL l1) (sL 100000 l1 sure1)) := Lib.hid hj8
                  have HLG3 : Hid (Calls Tryd.prog 24 #[.pointer (some ⟨g3, 0, none⟩)] W8 fun e w' => e = .returned (.int .i64 (Ln : Int)) ∧ w' = W8) := Lib.hid (by
                    have := js_lenL HJ8.out
                    rw [HLn.out] at this
                    exact this)
                  have HLG2 : Hid (∀ W, JrnAt W Y g2 gd (jL l1) → Calls Tryd.prog 24 #[.pointer (some ⟨g2, 0, none⟩)] W fun e w' => e = .returned (.int .i64 (Ln : Int)) ∧ w' = W) := Lib.hid fun W h => by
                    have := len_any Y g2 gd (jL l1) W h
                    rw [show (jL l1).recs.length = Ln from HLn.out] at this
                    exact this
                  clear hjY hYZ hYT hZT hj8 ht8 hT8 HOP2
                  go_wp2_with (first
                    | (go_at_call 24; guard_target = Calls _ _ #[Value.pointer (some ⟨g3, 0, none⟩)] _ _; refine HLG3.out.mono ?_; rintro e Wa ⟨rfl, rfl⟩)
                    | (go_at_call 24; guard_target = Calls _ _ #[Value.pointer (some ⟨g2, 0, none⟩)] _ _; refine (HLG2.out _ HY8.out).mono ?_; rintro e Wb ⟨rfl, rfl⟩))
                  generalize hW : World.alloc Wb _ = W9
                  have hrd := rd_const (w := Wb) (W := W9) moreB 4 rfl (by omega) _ hW
                  have hb9 : Below Wb.heap.size Wb W9 := by rw [← hW]; exact (Below.refl _ _).alloc (Nat.le_refl _) _
                  have hlt : Wb.heap.size < W9.heap.size := by rw [← hW]; simp
                  have HB9 := Lib.hid (HB8.out.trans (hb9.mono HB8.out.size))
                  have HWM := Lib.hid (js_write _ 4 4 moreB (HT.out.below HB9.out) (HJ8.out.below hb9) (by show l1.length < 100000000; rw [HLn.out]; have := HLC.out; omega) (hrd.mono fun i hi => ⟨by rw [hi]; exact hlt, fun h => by have := HJ8.out.lt i h; omega⟩))
                  rw [write_yes 100000 l1 sure1 moreB (by decide) (by have := recs_le HL1.out; have h1 := HLn.out; have h2 := HLC.out; have h3 : moreB.length = 4 := rfl; omega)] at HWM
                  have HY9 := Lib.hid (HY8.out.below hb9)
                  clear hW hrd hb9 hlt kc
                  refine HWM.out.mono ?_
                  rintro e W10 ⟨rfl, T10, hj10, ht10, hT10⟩
                  have HB10 := Lib.hid (below_turn HB9.out (Nat.le_refl _) ht10 HT8.out)
                  have HY10 := Lib.hid (HY9.out.turn ht10 HYT8.out)
                  have HAT : Hid (Calls Tryd.prog 26 #[.pointer (some ⟨g3, 0, none⟩), .int .i64 (Ln : Int)] W10 fun e w' => ∃ A' c', e = .returned (.tuple #[.slice A' 4 c', .int .i64 0]) ∧ RdB w' (fun b => b < w'.heap.size) (.slice A' 4 c') moreB ∧ Below W10.heap.size W10 w') := Lib.hid (js_at hj10 Ln (by rw [List.length_append, HLn.out]; simp) moreB (by rw [List.getD_eq_getElem?_getD, List.getElem?_append_right (by rw [HLn.out]; exact Nat.le_refl _), HLn.out, Nat.sub_self]; rfl))
                  have hstr : ∀ w', (binOp .eql 9 (.string ⟨moreB.toArray⟩) (.string { data := #[109, 111, 114, 101] })).run Tryd.prog w' = .ok (.bool true) w' := fun w' => eql_str moreB moreB w'
                  clear hj10 ht10 hT10 HWM
                  dsimp only
                  go_wp2_with (first
                    | (go_at_call 24; refine (HLG2.out _ HY10.out).mono ?_; rintro e Wc ⟨rfl, rfl⟩)
                    | (go_at_call 26; refine HAT.out.mono ?_; rintro e W11 ⟨A11, c11, rfl, hr11, hb11⟩; have hcs := str_rd hr11))
                  go_ret
                  exact ⟨rfl, HB10.out.trans (hb11.mono HB10.out.size)⟩
end Go.Proofs.YtbfapabjglipoaaDoor
