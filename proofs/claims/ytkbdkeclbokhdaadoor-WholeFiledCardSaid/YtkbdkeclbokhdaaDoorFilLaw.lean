/-
  The law WholeFiled, in whatever memory in which the tables lie. No condition.
-/
import Derived.Test.YtkbdkeclbokhdaaDoorFilKit
import Derived.Test.YtkbdkeclbokhdaaDoorFilArgs
namespace Go.Proofs.YtkbdkeclbokhdaaDoor
open Go Go.RowKit Go.Shelf PackMath

theorem wpList_load_runF {P : Program} {ops : Array Oper} {rest : List Oper} {o : Oper} {a : Go.Act} {w : World} {Q : Exit → Go.Act → World → Prop} (hw : Region.wanted o (yielded ops a.tmps) = true) (ty : TypeId) (x : Operand) (ho : o.op = .load ty x) (p v : Value) (hx : a.eval x = p) (hl : (Instr.loadAt ty p).run P w = .ok v w)
    (h : wpList P ops Q rest (a.put o.dst v) w) : wpList P ops Q (o :: rest) a w :=
  wpList_step fun K hK => by
    rw [if_pos hw]
    unfold Oper.wp
    simp [execOp, ho, hx, hl, Result.andThen, Oper.upon]
    exact hK _ _ h
theorem load_msgF {W : World} {g : Nat} {M : Array Value} (h : Blk W g 69 M) (hs : M.size = 41) : (Instr.loadAt 69 (.pointer (some ⟨g, 0, none⟩))).run Tryd.prog W = .ok (.agg M) W := by
  have h0 := run_load_el W 69 _ Tryd.underlying69 rfl ⟨g, 0, none⟩ M.toList (by rw [Array.length_toList, hs]; kernel_rfl) fun q hq => by
    have e : ((⟨g, 0, none⟩ : Addr).add q) = ⟨g, q, none⟩ := by
      unfold Addr.add
      split <;> simp_all
    rw [e, h.cell, Array.getElem?_toList]
  exact h0
theorem load_msgAt {W : World} {ad : Addr} {r : Raw} {d i l : Value} (h : ∀ j, j < 41 → W.cell? (ad.add j) = some (msgF r d i l j)) : (Instr.loadAt 69 (.pointer (some ad))).run Tryd.prog W = .ok (.agg (msgA r d i l)) W := by
  have hz : (msgA r d i l).size = 41 := arr_size _ _
  refine run_load_el W 69 _ Tryd.underlying69 rfl ad (msgA r d i l).toList (by rw [Array.length_toList, hz]; kernel_rfl) fun q hq => ?_
  rw [Array.length_toList, hz] at hq
  rw [h q hq, Array.getElem?_toList]
  unfold msgA
  rw [arr_get, if_pos hq]
theorem index_msg (ad : Addr) (n c i : Nat) (hi : i < n) (w : World) : (Instr.indexAt 65 (.slice (some ad) n c) (.int .i64 (i : Int))).run Tryd.prog w = .ok (.pointer (some (ad.add (i * 41)))) w := by
  have hk1 : (i : Int) < (n : Int) := by omega
  simp [Instr.indexAt, asIntOf, Sem.run_bind, run_underlying Tryd.underlying65]
  intro hh
  omega
/-- The bytes that are to be kept, in a block of their own. -/
structure FilB (T : Nat → Prop) (v : Value) (gb : Nat) (b : Value) (bs : List UInt8) (W : World) : Prop where
  rd : RdB W (fun i => i = gb) b bs
  lt : gb < W.heap.size
  nt : ¬ T gb
theorem FilB.out {T T' : Nat → Prop} {v b : Value} {gb : Nat} {bs : List UInt8} {W W' : World} (h : FilB T v gb b bs W) (ht : Turn T W W') (h3 : ∀ i, T' i → T i ∨ W.heap.size ≤ i) : FilB T' v gb b bs W' :=
  ⟨ht.rd h.rd (fun i hi => by rw [hi]; exact h.nt), Nat.lt_of_lt_of_le h.lt ht.size, fun hz => by
    rcases h3 gb hz with h' | h'
    · exact h.nt h'
    · have := h.lt
      omega⟩
set_option maxRecDepth 100000 in
set_option maxHeartbeats 60000000 in
theorem filed_law (A : Option Addr) (c : Nat) (ms : List Raw) (A2 : Option Addr) (c2 : Nat) (cs : List (Int × Int)) (w : World) (hT : Tables w) (hm : ms.length ≤ 140737488351232) (hr : RdMs w (fun b => b < w.heap.size) A ms) (hm2 : cs.length ≤ 140737488351232) (hr2 : RdCu w (fun b => b < w.heap.size) A2 cs) :
    Calls Tryd.prog 9 #[.slice A ms.length c, .slice A2 cs.length c2] w fun e w' => e = .returned (.bool true) ∧ Below w.heap.size w w' := by
  have HT := Lib.hid hT
  have HR := Lib.hid hr
  have HR2 := Lib.hid hr2
  obtain ⟨n, hn⟩ : ∃ n, ms.length = n := ⟨_, rfl⟩
  obtain ⟨m, hm0⟩ : ∃ n, cs.length = n := ⟨_, rfl⟩
  rw [hn] at hm
  rw [hm0] at hm2
  rw [hn, hm0]
  have HN := Lib.hid (And.intro hn hm0)
  have HM := Lib.hid (And.intro hm hm2)
  clear hT hr hr2 hn hm0 hm hm2
  have hidx : ∀ ad i w', i < n → (Instr.indexAt 65 (.slice (some ad) n c) (.int .i64 (i : Int))).run Tryd.prog w' = .ok (.pointer (some (ad.add (i * 41)))) w' := fun ad i w' hi => index_msg ad n c i hi w'
  have HIX := Lib.hid hidx
  clear hidx
  go_enter Tryd.func9, Tryd.ntmps9
  go_upto_region 4 with (go_at_call 11; refine (new_1m w).mono ?_; rintro e W1 ⟨rfl, hd1, hb1⟩; have HD1 := Lib.hid hd1; have HB1 := Lib.hid hb1; clear hd1 hb1)
  have HOP := Lib.hid (js_open (HT.out.below HB1.out) HD1.out (openJ_all 1048576 [] 0 (-1) (by simp)))
  obtain ⟨gd, hgd⟩ : ∃ z, w.heap.size = z := ⟨_, rfl⟩
  have HGD := Lib.hid hgd
  rw [hgd] at HOP ⊢
  clear hgd
  go_upto_region 7 with (go_at_call 13; refine HOP.out.mono ?_; rintro e W2 ⟨gj, T, rfl, hj, ht, h3⟩; have HST : Hid (FilR w [] gd (.pointer (some ⟨gj, 0, none⟩)) (.slice none 0 0) W2) := Lib.hid ⟨gj, T, -1, none, 0, rfl, rfl, hj, (fun i hi => by have := HB1.out.size; have := HGD.out; rcases h3 i hi with h | h <;> omega), ⟨rfl, .inl ⟨rfl, rfl⟩⟩, (fun i hi => by simp [Value.ownBlock] at hi), below_turn HB1.out (Nat.le_refl _) ht (fun i hi => by have := HGD.out; omega)⟩; clear hj ht h3)
  have HOLD : Hid (Below w.heap.size w W2) := Lib.hid (by obtain ⟨_, _, _, _, _, _, _, h⟩ := HST.out; exact h.old)
  clear HOP
  by_cases h16 : 16 < n
  · have e1 : decide ((n : Int) > 16) = true := decide_eq_true (by omega)
    clear h16
    go_wp2_with fail
    go_ret
    exact ⟨rfl, HOLD.out⟩
  · have e1 : decide ((n : Int) > 16) = false := decide_eq_false (by omega)
    have hn16 : n ≤ 16 := by omega
    clear h16
    by_cases h16 : 16 < m
    · have e2 : decide ((m : Int) > 16) = true := decide_eq_true (by omega)
      clear h16
      go_wp2_with fail
      go_ret
      exact ⟨rfl, HOLD.out⟩
    · have e2 : decide ((m : Int) > 16) = false := decide_eq_false (by omega)
      have hm16 : m ≤ 16 := by omega
      clear h16
      go_wp2_with fail
      go_loopw [7, 9, 49] (fun r v i wr => ∃ (k : Nat) (l : List (List UInt8)), k ≤ n ∧ i = .int .i64 (k : Int) ∧ FilOk l k ∧ FilR w l gd r v wr) (fun _ _ i _ => n - (intOf i).toNat)
      case atStart => exact ⟨0, [], Nat.zero_le _, rfl, ⟨Nat.le_refl _, by simp⟩, HST.out⟩
      case round =>
        clear HST e1 e2
        obtain ⟨k, l, hk, rfl, hok, gj, T, p, AS, cS, rfl, rfl, hst⟩ := hrel
        obtain ⟨wk, hwk⟩ : ∃ z, z = wr := ⟨_, rfl⟩
        subst hwk
        have HST := Lib.hid hst
        have HOK := Lib.hid hok
        obtain ⟨L, hL⟩ : ∃ z, l.length = z := ⟨_, rfl⟩
        have HL := Lib.hid hL
        rw [hL] at HST ⊢
        have hLk : L ≤ k := by rw [← hL]; exact hok.1
        clear hst hok hL
        by_cases hkn : k < n
        · have hki : (k : Int) < (n : Int) := by omega
          have hk16 : k ≤ 16 := by omega
          obtain ⟨ad, r, d, i, lv, rfl, hokb, hmk, hcell, hrr⟩ := HR.out k (by rw [HN.out.1]; exact hkn)
          have hidx := HIX.out ad k wk hkn
          have hrw : RdR wk (fun b => b < wk.heap.size) r d i lv := (hrr.kept fun a x ha h => (HST.out.old.cell (p := a) ha).trans h).mono fun b hb => Nat.lt_of_lt_of_le hb HST.out.old.size
          have HLD : Hid ((Instr.loadAt 69 (.pointer (some (ad.add (k * 41))))).run Tryd.prog wk = .ok (.agg (msgA r d i lv)) wk) := Lib.hid (load_msgAt fun j hj => by
            have h1 := hcell j hj
            rw [add_add, Nat.mul_comm k 41]
            exact (HST.out.old.cell (p := ad.add (41 * k + j)) (by rw [block_add]; exact hokb)).trans h1)
          obtain ⟨⟨Ad, cd, rfl, _⟩, ⟨Ai, ci, rfl, _, _⟩, ⟨Al, cl, rfl, _, _⟩⟩ := id hrw
          have HRR := Lib.hid hrw
          have HMA : Hid ((msgA r (.slice Ad r.data.length cd) (.slice Ai r.ids.length ci) (.slice Al r.list.length cl)).all (·.oneCell') = true) := Lib.hid (msg_all hrw)
          have HMS : Hid ((msgA r (.slice Ad r.data.length cd) (.slice Ai r.ids.length ci) (.slice Al r.list.length cl)).size = 41) := Lib.hid (arr_size _ _)
          obtain ⟨V, hV⟩ : ∃ V, msgA r (.slice Ad r.data.length cd) (.slice Ai r.ids.length ci) (.slice Al r.list.length cl) = V := ⟨_, rfl⟩
          have HV := Lib.hid hV
          rw [hV] at HLD HMA HMS
          clear hmk hcell hokb hrr hrw hV
          go_upto_region 13 with (first
            | (guard_target = wpList _ _ _ (Oper.mk _ (.load 69 _) _ _ _ _ :: _) _ _; refine wpList_load_runF (by rfl) 69 _ rfl (.pointer (some (ad.add (k * 41)))) (.agg V) rfl HLD.out ?_)
            | (guard_target = wpList _ _ _ (Oper.mk _ (.store 69 (.tmp 11) _) _ _ _ _ :: _) _ _; refine wpList_store_row rfl 69 _ _ rfl wk.heap.size V rfl rfl 69 _ (heap_alloc_new wk _) (by rw [HMS.out]; kernel_rfl) (by rw [HMS.out]; rfl) HMA.out ?_; rw [World.setRow_alloc_new]))
          obtain ⟨W3, hW3⟩ : ∃ z, wk.alloc (.cells V 69) = z := ⟨_, rfl⟩
          rw [hW3]
          obtain ⟨g11, hg11⟩ : ∃ z, wk.heap.size = z := ⟨_, rfl⟩
          have HK11 : Hid (Blk W3 g11 69 V) := Lib.hid (by rw [← hW3, ← hg11]; exact Blk.newAt _ _ rfl rfl)
          have hb3 : Below wk.heap.size wk W3 := by rw [← hW3]; exact (Below.refl _ _).alloc (Nat.le_refl _) _
          have HS3 := Lib.hid (HST.out.below hb3)
          have HRR3 : Hid (RdR W3 (fun b => b < W3.heap.size) r (.slice Ad r.data.length cd) (.slice Ai r.ids.length ci) (.slice Al r.list.length cl)) := Lib.hid ((HRR.out.kept fun a x ha h => (hb3.cell (p := a) ha).trans h).mono fun b hb => Nat.lt_of_lt_of_le hb hb3.size)
          have hk11 : Blk W3 g11 69 (msgA r (.slice Ad r.data.length cd) (.slice Ai r.ids.length ci) (.slice Al r.list.length cl)) := by rw [HV.out]; exact HK11.out
          obtain ⟨c0, c1, c2', c3, c4, c5, c7, c8, c9⟩ := msg_cells hk11
          rw [hg11]
          clear hW3 hb3 hk11 c0 c1 c2' c3 c4 c5 hidx hg11 HRR
          obtain ⟨nd, hnd⟩ : ∃ z, r.data.length = z := ⟨_, rfl⟩
          obtain ⟨ni, hni⟩ : ∃ z, r.ids.length = z := ⟨_, rfl⟩
          obtain ⟨nl, hnl⟩ : ∃ z, r.list.length = z := ⟨_, rfl⟩
          rw [hnd] at c7 HRR3 HV
          rw [hni] at c8 HRR3 HV
          rw [hnl] at c9 HRR3 HV
          have HNN := Lib.hid (And.intro hnd (And.intro hni hnl))
          clear hnd hni hnl
          by_cases hb1 : 2000 < nd
          · have e1 : decide ((nd : Int) > 2000) = true := decide_eq_true (by omega)
            clear hb1
            go_wp2_with fail
            go_ret
            exact ⟨rfl, HS3.out.old⟩
          have e1 : decide ((nd : Int) > 2000) = false := decide_eq_false (by omega)
          by_cases hb2 : 64 < ni
          · have e2 : decide ((ni : Int) > 64) = true := decide_eq_true (by omega)
            clear hb1 hb2
            go_wp2_with fail
            go_ret
            exact ⟨rfl, HS3.out.old⟩
          have e2 : decide ((ni : Int) > 64) = false := decide_eq_false (by omega)
          by_cases hb3 : 0 < nl
          · have e3 : decide ((nl : Int) > 0) = true := decide_eq_true (by omega)
            have e3' : decide (0 < nl) = true := decide_eq_true hb3
            clear hb1 hb2 hb3
            go_wp2_with fail
            go_ret
            exact ⟨rfl, HS3.out.old⟩
          have e3 : decide ((nl : Int) > 0) = false := decide_eq_false (by omega)
          have e3' : decide (0 < nl) = false := decide_eq_false hb3
          have HSH : Hid (r.data.length ≤ 2000 ∧ r.list.length = 0) := Lib.hid (by rw [HNN.out.1, HNN.out.2.2]; omega)
          clear hb1 hb2 hb3
          by_cases hf : r.Fit
          case neg =>
            have HWN := Lib.hid (write_no r hf _ _ _ W3 HRR3.out)
            rw [HV.out] at HWN
            have hck : ((r.check : Int) != 0) = true := by
              have : ¬ r.check = 0 := fun h => hf (r.fit_iff.1 h)
              simpa using this
            obtain ⟨ck, hck0⟩ : ∃ z, r.check = z := ⟨_, rfl⟩
            rw [hck0] at HWN hck
            clear hf hck0
            go_wp2_with (first
              | (guard_target = wpList _ _ _ (Oper.mk _ (.load 69 _) _ _ _ _ :: _) _ _; refine wpList_load_runF (by rfl) 69 _ rfl (.pointer (some ⟨g11, 0, none⟩)) (.agg V) rfl (load_msgF HK11.out HMS.out) ?_)
              | (go_at_call 30; refine HWN.out.mono ?_; rintro e W4 ⟨rfl, hb4⟩; have HS4 := Lib.hid (HS3.out.below hb4); clear hb4))
            go_roundw
            · exact ⟨k + 1, l, by omega, by go_num, HOK.out.mono (by omega), gj, T, p, AS, cS, rfl, by rw [HL.out], HS4.out⟩
            · simp [intOf]
              omega
          case pos =>
            have HWY := Lib.hid (callsIn_wide.1 (write_ok r hf _ _ _ W3 HRR3.out))
            rw [HV.out] at HWY
            have HBL := Lib.hid (write_short hf HSH.out.1 HSH.out.2)
            have HBR : Hid (∃ r', readP (writeM r.m) = .ok r') := Lib.hid (by obtain ⟨r', h, _⟩ := readP_write hf; exact ⟨r', h⟩)
            obtain ⟨bs, hbs⟩ : ∃ z, writeM r.m = z := ⟨_, rfl⟩
            rw [hbs] at HWY HBL HBR
            clear hf hbs HSH HNN HRR3
            go_upto_region 16 with (first
              | (guard_target = wpList _ _ _ (Oper.mk _ (.load 69 _) _ _ _ _ :: _) _ _; refine wpList_load_runF (by rfl) 69 _ rfl (.pointer (some ⟨g11, 0, none⟩)) (.agg V) rfl (load_msgF HK11.out HMS.out) ?_)
              | (go_at_call 30; refine HWY.out.mono ?_; rintro e W4 ⟨gb, nb, cb, rfl, hnb, ho4, hb4⟩; have HS4 := Lib.hid (HS3.out.below hb4); have HNB := Lib.hid hnb; have HB4 : Hid (FilB T (.slice AS L cS) gb (.slice (some ⟨gb, 0, none⟩) nb cb) bs W4) := Lib.hid ⟨(own_read ho4 (by have := HBL.out; omega)).mono (fun i hi => (Option.some.inj hi.1).symm), (ho4.lt gb rfl).2, fun hz => by have := (ho4.lt gb rfl).1; have := HS3.out.js.lt gb hz; omega⟩; clear hnb ho4 hb4))
            clear HWY c7 c8 c9 e1 e2 e3 e3' HK11 HV HMA HMS HLD
            go_upto_region 17 with fail
            go_cut [88] from 77 to 88 (fun s88 wx => (∃ b : Bool, s88 = .bool b ∧ (b = true → k < m)) ∧ wx = W4)
            case first =>
              by_cases hkm : k < m
              · have hkmi : (k : Int) < (m : Int) := by omega
                obtain ⟨ad2, q, rfl, hokc, hq, hq0, hq1, hq2, hq3⟩ := HR2.out k (by rw [HN.out.2]; exact hkm)
                obtain ⟨qa, qb⟩ := q
                have hcw0 : W4.cell? (ad2.add (k * 2)) = some (.int .i64 qa) := by
                  rw [Nat.mul_comm k 2]
                  exact (HS4.out.old.cell (p := ad2.add (2 * k)) (by rw [block_add]; exact hokc)).trans hq0
                go_wp2_with fail
                go_meet
                exact ⟨⟨_, rfl, fun _ => hkm⟩, rfl⟩
              · have hkmi : ¬ (k : Int) < (m : Int) := by omega
                go_wp2_with fail
                go_meet
                exact ⟨⟨false, rfl, fun e => by cases e⟩, rfl⟩
            case rest =>
              obtain ⟨⟨b, rfl, hbk⟩, hw9⟩ := hcut
              subst hw9
              go_upto_if 88 with fail
              go_cut [14] from 89 to 95 (fun s14 wx => ∃ p' T', FilG w (jL l) ((sF 1048576 l).brk p') l gj gd T' (.slice AS L cS) wx ∧ FilB T' (.slice AS L cS) gb (.slice (some ⟨gb, 0, none⟩) nb cb) bs wx)
              case first =>
                cases b with
                | true =>
                  have hkm := hbk rfl
                  have hkmi : (k : Int) < (m : Int) := by omega
                  obtain ⟨ad2, q, rfl, hokc, hq, hq0, hq1, hq2, hq3⟩ := HR2.out k (by rw [HN.out.2]; exact hkm)
                  obtain ⟨qa, qb⟩ := q
                  have hcw0 : wc.cell? (ad2.add (k * 2)) = some (.int .i64 qa) := by
                    rw [Nat.mul_comm k 2]
                    exact (HS4.out.old.cell (p := ad2.add (2 * k)) (by rw [block_add]; exact hokc)).trans hq0
                  have HBRK := Lib.hid (js_left (r := .returned (.tuple #[])) (args := #[.pointer (some ⟨gd, 0, none⟩), .int .i64 qa]) HS4.out.js (fun Z hZ => slabBreak_any Z gd _ qa hq2 hq3 wc hZ))
                  go_wp2_with (go_at_call 17; refine HBRK.out.mono ?_; rintro e W5 ⟨rfl, ho5⟩; obtain ⟨T5, hs5, ht5, h5⟩ := HS4.out.out ho5; have HS5 := Lib.hid hs5; have HB5 := Lib.hid (HB4.out.out ht5 h5); clear ho5 hs5 ht5 h5)
                  go_meet
                  exact ⟨qa, T5, HS5.out, HB5.out⟩
                | false =>
                  go_wp2_with fail
                  go_meet
                  exact ⟨p, T, HS4.out, HB4.out⟩
              case rest =>
                obtain ⟨p5, T5, hs5, hb5⟩ := hcut
                have HS5 := Lib.hid hs5
                have HB5 := Lib.hid hb5
                clear hs5 hb5 HS4 HB4 hbk
                have hfit : (recsT zeroD l).length + 35 + bs.length ≤ 1048576 := by have h1 := HOK.out.recs; have h2 := HBL.out; omega
                have hbl : bs.length ≤ 262144 := by have := HBL.out; omega
                have hln : (jL l).recs.length < 100000000 := by show l.length < _; rw [HL.out]; omega
                have HWR := Lib.hid (js_write (some ⟨gb, 0, none⟩) nb cb bs (HT.out.below HS5.out.old) HS5.out.js hln (HB5.out.rd.mono fun i hi => by rw [hi]; exact ⟨HB5.out.lt, HB5.out.nt⟩))
                by_cases hp01 : p5 = 0 ∨ p5 = 1
                · have HDN := Lib.hid (fun keep => (filed_down 1048576 l bs p5 keep hbl hfit HOK.out.small hp01).2)
                  rw [(filed_down 1048576 l bs p5 0 hbl hfit HOK.out.small hp01).1] at HWR
                  obtain ⟨s9, hs9⟩ : ∃ z, (writeJ (jL l) ((sF 1048576 l).brk p5) bs).1 = z := ⟨_, rfl⟩
                  obtain ⟨sd9, hsd9⟩ : ∃ z, (writeJ (jL l) ((sF 1048576 l).brk p5) bs).2.1 = z := ⟨_, rfl⟩
                  rw [hs9, hsd9] at HWR
                  rw [hsd9] at HDN
                  clear hs9 hsd9 hp01 hfit hbl hln
                  go_upto_region 24 with (go_at_call 16; refine HWR.out.mono ?_; rintro e W6 ⟨rfl, ho6⟩; obtain ⟨T6, hs6, ht6, h6⟩ := HS5.out.out ho6; have HS6 := Lib.hid hs6; have HB6 := Lib.hid (HB5.out.out ht6 h6); clear ho6 hs6 ht6 h6)
                  clear HWR
                  go_upto_if 127 with fail
                  go_cut [7, 8, 9, 15] from 128 to 165 (fun r s8 v s15 wx => ∃ l', FilOk l' (k + 1) ∧ FilR w l' gd r v wx)
                  case first =>
                    by_cases hkm : k < m
                    · have hkmi : (k : Int) < (m : Int) := by omega
                      obtain ⟨ad2, q, rfl, hokc, hq, hq0, hq1, hq2, hq3⟩ := HR2.out k (by rw [HN.out.2]; exact hkm)
                      obtain ⟨qa, qb⟩ := q
                      have hcw1 : W6.cell? ⟨(ad2.add (k * 2)).block, (ad2.add (k * 2)).off + 1, none⟩ = some (.int .i64 qb) := by
                        have h := (HS6.out.old.cell (p := ad2.add (2 * k + 1)) (by rw [block_add]; exact hokc)).trans hq1
                        rw [Nat.mul_comm 2 k, ← add_add] at h
                        exact h
                      obtain ⟨l1, hl1, hop⟩ := HDN.out qb
                      rcases hl1 with e1 | e1
                      · obtain rfl := e1.symm
                        have HLN : Hid (∀ W T' g' sd' (_ : Unit), JS W T' g' gd (jL (l)) sd' → Calls Tryd.prog 24 #[.pointer (some ⟨g', 0, none⟩)] W fun e w' => e = .returned (.int .i64 (L : Int)) ∧ w' = W) := Lib.hid fun W T' g' sd' _ h => by
                          have := js_lenL h
                          rw [HL.out] at this
                          exact this
                        have HOP := Lib.hid hop
                        clear hop
                        have e9 : ((L : Int) == (L : Int) + 1) = false := by rw [beq_eq_false_iff_ne]; omega
                        go_wp2_with (first
                          | (go_at_call 19; have HCX := Lib.hid (js_left (r := .returned (.tuple #[])) (args := #[.pointer (some ⟨gd, 0, none⟩), .int .i64 qb]) HS6.out.js (fun Z hZ => slabCrash_any Z gd _ qb W6 hZ)); refine HCX.out.mono ?_; clear HCX; rintro e W7 ⟨rfl, ho⟩; obtain ⟨T7, hs, ht, h3⟩ := HS6.out.out ho; have HS7 := Lib.hid hs; have HB7 := Lib.hid (HB6.out.out ht h3); clear ho hs ht h3)
                          | (go_at_call 13; have HOX := Lib.hid (HS7.out.opened HT.out HOP.out); refine HOX.out.mono ?_; clear HOX; rintro e W8 ⟨gj8, T8, rfl, hs, ht, h3⟩; have HS8 := Lib.hid hs; have HB8 := Lib.hid (HB7.out.out ht h3); clear hs ht h3)
                          | (go_at_call 24; have HLX := Lib.hid (HLN.out _ _ _ _ () HS8.out.js); refine HLX.out.mono ?_; clear HLX; rintro e W9 ⟨rfl, rfl⟩))
                        go_meet
                        exact ⟨l, HOK.out.mono (by omega), gj8, T8, -1, AS, cS, rfl, by rw [HL.out], HS8.out⟩
                      · subst e1
                        have HLN : Hid (∀ W T' g' sd' (_ : Unit), JS W T' g' gd (jL (l ++ [bs])) sd' → Calls Tryd.prog 24 #[.pointer (some ⟨g', 0, none⟩)] W fun e w' => e = .returned (.int .i64 ((L : Int) + 1)) ∧ w' = W) := Lib.hid fun W T' g' sd' _ h => by
                          have := js_lenL h
                          rw [List.length_append, HL.out] at this
                          exact this
                        have HOP := Lib.hid hop
                        clear hop
                        go_wp2_with (first
                          | (go_at_call 19; have HCX := Lib.hid (js_left (r := .returned (.tuple #[])) (args := #[.pointer (some ⟨gd, 0, none⟩), .int .i64 qb]) HS6.out.js (fun Z hZ => slabCrash_any Z gd _ qb W6 hZ)); refine HCX.out.mono ?_; clear HCX; rintro e W7 ⟨rfl, ho⟩; obtain ⟨T7, hs, ht, h3⟩ := HS6.out.out ho; have HS7 := Lib.hid hs; have HB7 := Lib.hid (HB6.out.out ht h3); clear ho hs ht h3)
                          | (go_at_call 13; have HOX := Lib.hid (HS7.out.opened HT.out HOP.out); refine HOX.out.mono ?_; clear HOX; rintro e W8 ⟨gj8, T8, rfl, hs, ht, h3⟩; have HS8 := Lib.hid hs; have HB8 := Lib.hid (HB7.out.out ht h3); clear hs ht h3; have hcv8 := str_rd HB8.out.rd; obtain ⟨A10, c10, W10, hrun10, hs10⟩ := HS8.out.app bs (by rw [HL.out]; omega); rw [HL.out] at hrun10 hs10; have HRUN10 := Lib.hid hrun10; have HS10 := Lib.hid hs10; clear hrun10 hs10)
                          | (go_at_call 24; have HLX := Lib.hid (HLN.out _ _ _ _ () HS8.out.js); refine HLX.out.mono ?_; clear HLX; rintro e W9 ⟨rfl, rfl⟩)
                          | (at_builtin; refine wpList_append_run rfl (.tmp 161) (.tmp 164) _ _ rfl _ _ rfl rfl _ _ HRUN10.out ?_))
                        go_meet
                        exact ⟨l ++ [bs], HOK.out.snoc HBL.out HBR.out, gj8, T8, -1, A10, c10, rfl, by rw [List.length_append, HL.out]; rfl, HS10.out⟩
                    · have hkmi : ¬ (k : Int) < (m : Int) := by omega
                      obtain ⟨l1, hl1, hop⟩ := HDN.out 0
                      rcases hl1 with e1 | e1
                      · obtain rfl := e1.symm
                        have HLN : Hid (∀ W T' g' sd' (_ : Unit), JS W T' g' gd (jL (l)) sd' → Calls Tryd.prog 24 #[.pointer (some ⟨g', 0, none⟩)] W fun e w' => e = .returned (.int .i64 (L : Int)) ∧ w' = W) := Lib.hid fun W T' g' sd' _ h => by
                          have := js_lenL h
                          rw [HL.out] at this
                          exact this
                        have HOP := Lib.hid hop
                        clear hop
                        have e9 : ((L : Int) == (L : Int) + 1) = false := by rw [beq_eq_false_iff_ne]; omega
                        go_wp2_with (first
                          | (go_at_call 19; have HCX := Lib.hid (js_left (r := .returned (.tuple #[])) (args := #[.pointer (some ⟨gd, 0, none⟩), .int .i64 0]) HS6.out.js (fun Z hZ => slabCrash_any Z gd _ 0 W6 hZ)); refine HCX.out.mono ?_; clear HCX; rintro e W7 ⟨rfl, ho⟩; obtain ⟨T7, hs, ht, h3⟩ := HS6.out.out ho; have HS7 := Lib.hid hs; have HB7 := Lib.hid (HB6.out.out ht h3); clear ho hs ht h3)
                          | (go_at_call 13; have HOX := Lib.hid (HS7.out.opened HT.out HOP.out); refine HOX.out.mono ?_; clear HOX; rintro e W8 ⟨gj8, T8, rfl, hs, ht, h3⟩; have HS8 := Lib.hid hs; have HB8 := Lib.hid (HB7.out.out ht h3); clear hs ht h3)
                          | (go_at_call 24; have HLX := Lib.hid (HLN.out _ _ _ _ () HS8.out.js); refine HLX.out.mono ?_; clear HLX; rintro e W9 ⟨rfl, rfl⟩))
                        go_meet
                        exact ⟨l, HOK.out.mono (by omega), gj8, T8, -1, AS, cS, rfl, by rw [HL.out], HS8.out⟩
                      · subst e1
                        have HLN : Hid (∀ W T' g' sd' (_ : Unit), JS W T' g' gd (jL (l ++ [bs])) sd' → Calls Tryd.prog 24 #[.pointer (some ⟨g', 0, none⟩)] W fun e w' => e = .returned (.int .i64 ((L : Int) + 1)) ∧ w' = W) := Lib.hid fun W T' g' sd' _ h => by
                          have := js_lenL h
                          rw [List.length_append, HL.out] at this
                          exact this
                        have HOP := Lib.hid hop
                        clear hop
                        go_wp2_with (first
                          | (go_at_call 19; have HCX := Lib.hid (js_left (r := .returned (.tuple #[])) (args := #[.pointer (some ⟨gd, 0, none⟩), .int .i64 0]) HS6.out.js (fun Z hZ => slabCrash_any Z gd _ 0 W6 hZ)); refine HCX.out.mono ?_; clear HCX; rintro e W7 ⟨rfl, ho⟩; obtain ⟨T7, hs, ht, h3⟩ := HS6.out.out ho; have HS7 := Lib.hid hs; have HB7 := Lib.hid (HB6.out.out ht h3); clear ho hs ht h3)
                          | (go_at_call 13; have HOX := Lib.hid (HS7.out.opened HT.out HOP.out); refine HOX.out.mono ?_; clear HOX; rintro e W8 ⟨gj8, T8, rfl, hs, ht, h3⟩; have HS8 := Lib.hid hs; have HB8 := Lib.hid (HB7.out.out ht h3); clear hs ht h3; have hcv8 := str_rd HB8.out.rd; obtain ⟨A10, c10, W10, hrun10, hs10⟩ := HS8.out.app bs (by rw [HL.out]; omega); rw [HL.out] at hrun10 hs10; have HRUN10 := Lib.hid hrun10; have HS10 := Lib.hid hs10; clear hrun10 hs10)
                          | (go_at_call 24; have HLX := Lib.hid (HLN.out _ _ _ _ () HS8.out.js); refine HLX.out.mono ?_; clear HLX; rintro e W9 ⟨rfl, rfl⟩)
                          | (at_builtin; refine wpList_append_run rfl (.tmp 161) (.tmp 164) _ _ rfl _ _ rfl rfl _ _ HRUN10.out ?_))
                        go_meet
                        exact ⟨l ++ [bs], HOK.out.snoc HBL.out HBR.out, gj8, T8, -1, A10, c10, rfl, by rw [List.length_append, HL.out]; rfl, HS10.out⟩
                  case rest =>
                    clear HS6 HB6 HDN
                    obtain ⟨l6, hok6, gj6, T6, p6, A6, c6, rfl, rfl, hs6⟩ := hcut
                    have HS6 := Lib.hid hs6
                    have HOK6 := Lib.hid hok6
                    obtain ⟨L6, hL6⟩ : ∃ z, l6.length = z := ⟨_, rfl⟩
                    have HL6 := Lib.hid hL6
                    rw [hL6] at HS6 ⊢
                    have hL6k : L6 ≤ 17 := by rw [← hL6]; have := hok6.1; omega
                    clear hs6 hok6 hL6
                    have HLN : Hid (Calls Tryd.prog 24 #[.pointer (some ⟨gj6, 0, none⟩)] wc fun e w' => e = .returned (.int .i64 (L6 : Int)) ∧ w' = wc) := Lib.hid (by
                      have := js_lenL HS6.out.js
                      rw [HL6.out] at this
                      exact this)
                    go_wp2_with (go_at_call 24; refine HLN.out.mono ?_; rintro e W9 ⟨rfl, rfl⟩)
                    go_loopw [173] (fun i wr => ∃ q : Nat, q ≤ L6 ∧ i = .int .i64 (q : Int) ∧ Below W9.heap.size W9 wr) (fun i _ => L6 - (intOf i).toNat)
                    case atStart => exact ⟨0, Nat.zero_le _, rfl, Below.refl _ _⟩
                    case round =>
                      obtain ⟨q, hq, rfl, hbq⟩ := hrel
                      obtain ⟨wq, hwq⟩ : ∃ z, z = wr := ⟨_, rfl⟩
                      subst hwq
                      have HQ := Lib.hid hbq
                      have HSQ := Lib.hid (HS6.out.below hbq)
                      clear hbq
                      by_cases hqn : q < L6
                      · have hqi : (q : Int) < (L6 : Int) := by omega
                        obtain ⟨x, hx⟩ : ∃ x, l6.getD q [] = x := ⟨_, rfl⟩
                        have hxl : l6[q]? = some x := by
                          have h1 : q < l6.length := by rw [HL6.out]; exact hqn
                          rw [List.getElem?_eq_getElem h1, ← hx, List.getD_eq_getElem?_getD, List.getElem?_eq_getElem h1]
                          rfl
                        obtain ⟨hxs, rr, hrp⟩ := HOK6.out.2 x (List.mem_of_getElem? hxl)
                        have hrow := HSQ.out.row
                        rw [HL6.out] at hrow
                        obtain ⟨ad6, rfl, hc6⟩ := str_here hrow hxl
                        clear hrow
                        have HAT := Lib.hid (js_at HSQ.out.js q (by rw [HL6.out]; exact hqn) x hx)
                        have HRD : Hid (∀ A' c' W, RdB W (fun b => b < W.heap.size) (.slice A' x.length c') x → Calls Tryd.prog 31 #[.slice A' x.length c'] W fun e w' => (∃ d i l, e = .returned (.tuple #[.agg (msgA rr d i l), .int .i64 0]) ∧ RdR w' (fresh W w') rr d i l) ∧ Below W.heap.size W w') := Lib.hid fun A' c' W h => (read_any A' c' x W h).mono fun e w' h => ⟨by have := h.1; unfold ReadOut at this; rw [hrp] at this; exact this, h.2⟩
                        have hne := fun w' => neq_strF x w'
                        obtain ⟨xn, hxn⟩ : ∃ z, x.length = z := ⟨_, rfl⟩
                        rw [hxn] at HAT HRD
                        clear hx hxl hxs hrp hxn
                        go_wp2_with (first
                          | (go_at_call 26; refine HAT.out.mono ?_; rintro e W7 ⟨A7, c7, rfl, hr7, hb7⟩; have HR7 := Lib.hid hr7; have HB7 := Lib.hid hb7; have hcv7 := str_rd hr7; clear hr7 hb7)
                          | (go_at_call 31; refine (HRD.out _ _ _ HR7.out).mono ?_; rintro e W8 ⟨⟨d8, i8, l8, rfl, hr8⟩, hb8⟩; have HMA8 : Hid ((msgA rr d8 i8 l8).all (·.oneCell') = true) := Lib.hid (msg_all hr8); have HMS8 : Hid ((msgA rr d8 i8 l8).size = 41) := Lib.hid (arr_size _ _); have HB8 := Lib.hid (HB7.out.trans (hb8.mono HB7.out.size)); obtain ⟨V8, hV8⟩ : ∃ V, msgA rr d8 i8 l8 = V := ⟨_, rfl⟩; rw [hV8] at HMA8 HMS8 ⊢; clear hr8 hb8 hV8)
                          | (guard_target = wpList _ _ _ (Oper.mk _ (.store 69 (.tmp 20) _) _ _ _ _ :: _) _ _; refine wpList_store_row rfl 69 _ _ rfl W8.heap.size V8 rfl rfl 69 _ (heap_alloc_new W8 _) (by rw [HMS8.out]; kernel_rfl) (by rw [HMS8.out]; rfl) HMA8.out ?_; rw [World.setRow_alloc_new]))
                        go_roundw
                        · exact ⟨q + 1, by omega, by go_num, HQ.out.trans ((HB8.out.mono HQ.out.size).alloc (Nat.le_trans HQ.out.size HB8.out.size) _)⟩
                        · simp [intOf]
                          omega
                      · obtain rfl : q = L6 := by omega
                        go_wp2_with fail
                        go_roundw
                        · exact ⟨k + 1, l6, by omega, by go_num, HOK6.out, gj6, T6, p6, A6, c6, rfl, by rw [HL6.out], HSQ.out⟩
                        · simp [intOf]
                          omega
                · rw [filed_up 1048576 l bs p5 hbl hfit (by omega) (by omega)] at HWR
                  clear hp01 hfit hbl hln
                  go_upto_region 24 with (first
                    | (go_at_call 16; refine HWR.out.mono ?_; rintro e W6 ⟨rfl, ho6⟩; obtain ⟨T6, hs6, ht6, h6⟩ := HS5.out.out ho6; have HS6 := Lib.hid hs6; have HB6 := Lib.hid (HB5.out.out ht6 h6); have hcv6 := str_rd HB6.out.rd; obtain ⟨A7, c7, W7, hrun7, hs7⟩ := HS6.out.app bs (by rw [HL.out]; omega); rw [HL.out] at hrun7 hs7; have HRUN7 := Lib.hid hrun7; have HS7 := Lib.hid hs7; clear hrun7 hs7; clear ho6 hs6 ht6 h6)
                    | (at_builtin; refine wpList_append_run rfl (.tmp 107) (.tmp 110) _ _ rfl _ _ rfl rfl _ _ HRUN7.out ?_))
                  clear HWR HS6
                  go_cut [127] from 112 to 127 (fun s127 wx => (∃ b : Bool, s127 = .bool b ∧ (b = true → k < m)) ∧ wx = W7)
                  case first =>
                    by_cases hkm : k < m
                    · have hkmi : (k : Int) < (m : Int) := by omega
                      obtain ⟨ad2, q, rfl, hokc, hq, hq0, hq1, hq2, hq3⟩ := HR2.out k (by rw [HN.out.2]; exact hkm)
                      obtain ⟨qa, qb⟩ := q
                      have hcw1 : W7.cell? ⟨(ad2.add (k * 2)).block, (ad2.add (k * 2)).off + 1, none⟩ = some (.int .i64 qb) := by
                        have h := (HS7.out.old.cell (p := ad2.add (2 * k + 1)) (by rw [block_add]; exact hokc)).trans hq1
                        rw [Nat.mul_comm 2 k, ← add_add] at h
                        exact h
                      go_wp2_with fail
                      go_meet
                      exact ⟨⟨_, rfl, fun _ => hkm⟩, rfl⟩
                    · have hkmi : ¬ (k : Int) < (m : Int) := by omega
                      go_wp2_with fail
                      go_meet
                      exact ⟨⟨false, rfl, fun e => by cases e⟩, rfl⟩
                  case rest =>
                    obtain ⟨⟨b, rfl, hbk⟩, hw9⟩ := hcut
                    subst hw9
                    go_upto_if 127 with fail
                    go_cut [7, 8, 9, 15] from 128 to 165 (fun r s8 v s15 wx => ∃ l', FilOk l' (k + 1) ∧ FilR w l' gd r v wx)
                    case first =>
                      cases b with
                      | true =>
                        have hkm := hbk rfl
                        have hkmi : (k : Int) < (m : Int) := by omega
                        obtain ⟨ad2, q, rfl, hokc, hq, hq0, hq1, hq2, hq3⟩ := HR2.out k (by rw [HN.out.2]; exact hkm)
                        obtain ⟨qa, qb⟩ := q
                        have hcw1 : wc.cell? ⟨(ad2.add (k * 2)).block, (ad2.add (k * 2)).off + 1, none⟩ = some (.int .i64 qb) := by
                          have h := (HS7.out.old.cell (p := ad2.add (2 * k + 1)) (by rw [block_add]; exact hokc)).trans hq1
                          rw [Nat.mul_comm 2 k, ← add_add] at h
                          exact h
                        have HOP := Lib.hid (filed_crash 1048576 (l ++ [bs]) (decP (decP p5)) qb (HOK.out.snoc HBL.out HBR.out).small)
                        go_wp2_with (first
                          | (go_at_call 19; have HCX := Lib.hid (js_left (r := .returned (.tuple #[])) (args := #[.pointer (some ⟨gd, 0, none⟩), .int .i64 qb]) HS7.out.js (fun Z hZ => slabCrash_any Z gd _ qb wc hZ)); refine HCX.out.mono ?_; clear HCX; rintro e W8 ⟨rfl, ho⟩; obtain ⟨T8, hs, ht, h3⟩ := HS7.out.out ho; have HS8 := Lib.hid hs; clear ho hs ht h3)
                          | (go_at_call 13; have HOX := Lib.hid (HS8.out.opened HT.out HOP.out); refine HOX.out.mono ?_; clear HOX; rintro e W9 ⟨gj9, T9, rfl, hs, ht, h3⟩; have HS9 := Lib.hid hs; clear hs ht h3))
                        go_meet
                        exact ⟨l ++ [bs], HOK.out.snoc HBL.out HBR.out, gj9, T9, -1, A7, c7, rfl, by rw [List.length_append, HL.out]; rfl, HS9.out⟩
                      | false =>
                        go_wp2_with fail
                        go_meet
                        exact ⟨l ++ [bs], HOK.out.snoc HBL.out HBR.out, gj, T6, decP (decP p5), A7, c7, rfl, by rw [List.length_append, HL.out]; rfl, HS7.out⟩
                    case rest =>
                      clear HS7 HB6 hbk
                      obtain ⟨l6, hok6, gj6, T6, p6, A6, c6, rfl, rfl, hs6⟩ := hcut
                      have HS6 := Lib.hid hs6
                      have HOK6 := Lib.hid hok6
                      obtain ⟨L6, hL6⟩ : ∃ z, l6.length = z := ⟨_, rfl⟩
                      have HL6 := Lib.hid hL6
                      rw [hL6] at HS6 ⊢
                      have hL6k : L6 ≤ 17 := by rw [← hL6]; have := hok6.1; omega
                      clear hs6 hok6 hL6
                      have HLN : Hid (Calls Tryd.prog 24 #[.pointer (some ⟨gj6, 0, none⟩)] wc fun e w' => e = .returned (.int .i64 (L6 : Int)) ∧ w' = wc) := Lib.hid (by
                        have := js_lenL HS6.out.js
                        rw [HL6.out] at this
                        exact this)
                      go_wp2_with (go_at_call 24; refine HLN.out.mono ?_; rintro e W9 ⟨rfl, rfl⟩)
                      go_loopw [173] (fun i wr => ∃ q : Nat, q ≤ L6 ∧ i = .int .i64 (q : Int) ∧ Below W9.heap.size W9 wr) (fun i _ => L6 - (intOf i).toNat)
                      case atStart => exact ⟨0, Nat.zero_le _, rfl, Below.refl _ _⟩
                      case round =>
                        obtain ⟨q, hq, rfl, hbq⟩ := hrel
                        obtain ⟨wq, hwq⟩ : ∃ z, z = wr := ⟨_, rfl⟩
                        subst hwq
                        have HQ := Lib.hid hbq
                        have HSQ := Lib.hid (HS6.out.below hbq)
                        clear hbq
                        by_cases hqn : q < L6
                        · have hqi : (q : Int) < (L6 : Int) := by omega
                          obtain ⟨x, hx⟩ : ∃ x, l6.getD q [] = x := ⟨_, rfl⟩
                          have hxl : l6[q]? = some x := by
                            have h1 : q < l6.length := by rw [HL6.out]; exact hqn
                            rw [List.getElem?_eq_getElem h1, ← hx, List.getD_eq_getElem?_getD, List.getElem?_eq_getElem h1]
                            rfl
                          obtain ⟨hxs, rr, hrp⟩ := HOK6.out.2 x (List.mem_of_getElem? hxl)
                          have hrow := HSQ.out.row
                          rw [HL6.out] at hrow
                          obtain ⟨ad6, rfl, hc6⟩ := str_here hrow hxl
                          clear hrow
                          have HAT := Lib.hid (js_at HSQ.out.js q (by rw [HL6.out]; exact hqn) x hx)
                          have HRD : Hid (∀ A' c' W, RdB W (fun b => b < W.heap.size) (.slice A' x.length c') x → Calls Tryd.prog 31 #[.slice A' x.length c'] W fun e w' => (∃ d i l, e = .returned (.tuple #[.agg (msgA rr d i l), .int .i64 0]) ∧ RdR w' (fresh W w') rr d i l) ∧ Below W.heap.size W w') := Lib.hid fun A' c' W h => (read_any A' c' x W h).mono fun e w' h => ⟨by have := h.1; unfold ReadOut at this; rw [hrp] at this; exact this, h.2⟩
                          have hne := fun w' => neq_strF x w'
                          obtain ⟨xn, hxn⟩ : ∃ z, x.length = z := ⟨_, rfl⟩
                          rw [hxn] at HAT HRD
                          clear hx hxl hxs hrp hxn
                          go_wp2_with (first
                            | (go_at_call 26; refine HAT.out.mono ?_; rintro e W7 ⟨A7, c7, rfl, hr7, hb7⟩; have HR7 := Lib.hid hr7; have HB7 := Lib.hid hb7; have hcv7 := str_rd hr7; clear hr7 hb7)
                            | (go_at_call 31; refine (HRD.out _ _ _ HR7.out).mono ?_; rintro e W8 ⟨⟨d8, i8, l8, rfl, hr8⟩, hb8⟩; have HMA8 : Hid ((msgA rr d8 i8 l8).all (·.oneCell') = true) := Lib.hid (msg_all hr8); have HMS8 : Hid ((msgA rr d8 i8 l8).size = 41) := Lib.hid (arr_size _ _); have HB8 := Lib.hid (HB7.out.trans (hb8.mono HB7.out.size)); obtain ⟨V8, hV8⟩ : ∃ V, msgA rr d8 i8 l8 = V := ⟨_, rfl⟩; rw [hV8] at HMA8 HMS8 ⊢; clear hr8 hb8 hV8)
                            | (guard_target = wpList _ _ _ (Oper.mk _ (.store 69 (.tmp 20) _) _ _ _ _ :: _) _ _; refine wpList_store_row rfl 69 _ _ rfl W8.heap.size V8 rfl rfl 69 _ (heap_alloc_new W8 _) (by rw [HMS8.out]; kernel_rfl) (by rw [HMS8.out]; rfl) HMA8.out ?_; rw [World.setRow_alloc_new]))
                          go_roundw
                          · exact ⟨q + 1, by omega, by go_num, HQ.out.trans ((HB8.out.mono HQ.out.size).alloc (Nat.le_trans HQ.out.size HB8.out.size) _)⟩
                          · simp [intOf]
                            omega
                        · obtain rfl : q = L6 := by omega
                          go_wp2_with fail
                          go_roundw
                          · exact ⟨k + 1, l6, by omega, by go_num, HOK6.out, gj6, T6, p6, A6, c6, rfl, by rw [HL6.out], HSQ.out⟩
                          · simp [intOf]
                            omega
                
        · obtain rfl : k = n := by omega
          have HLN : Hid (Calls Tryd.prog 24 #[.pointer (some ⟨gj, 0, none⟩)] wk fun e w' => e = .returned (.int .i64 (L : Int)) ∧ w' = wk) := Lib.hid (by
            have := js_lenL HST.out.js
            rw [HL.out] at this
            exact this)
          go_wp2_with (go_at_call 24; refine HLN.out.mono ?_; rintro e W4 ⟨rfl, rfl⟩)
          go_ret
          exact ⟨by simp, HST.out.old⟩
end Go.Proofs.YtkbdkeclbokhdaaDoor
