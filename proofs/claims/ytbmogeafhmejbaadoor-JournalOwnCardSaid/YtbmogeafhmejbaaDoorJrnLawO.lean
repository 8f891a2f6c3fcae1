/-
  Layer 10: the law JournalOwn. In whatever memory in which the tables lie. No condition.
-/
import Derived.Test.YtbmogeafhmejbaaDoorJrnLawG
import Derived.Test.YtbmogeafhmejbaaDoorJrnRef
import Derived.Test.YtbmogeafhmejbaaDoorIncRow
namespace Go.Proofs.YtbmogeafhmejbaaDoor
open Go Go.RowKit Go.Shelf

/-- The journal, the sum of all beside it, what is old. -/
def OwnK (w : World) (S : Nat → Prop) (g gd gl : Nat) (l : List (List UInt8)) (sure : Nat) (W : World) : Prop :=
  JS W S g gd (jL l) (sL 50000 l sure) ∧ (∀ i, S i → w.heap.size ≤ i ∧ i ≠ gl) ∧ Blk W gl 37 (arr 32 fun i => bv (lastT zeroD l i)) ∧ Below w.heap.size w W ∧ w.heap.size ≤ gl
theorem OwnK.below {w W W' : World} {S : Nat → Prop} {g gd gl sure : Nat} {l : List (List UInt8)} (h : OwnK w S g gd gl l sure W) (hb : Below W.heap.size W W') : OwnK w S g gd gl l sure W' :=
  ⟨h.1.below hb, h.2.1, h.2.2.1.below hb h.2.2.1.lt, h.2.2.2.1.trans (hb.mono h.2.2.2.1.size), h.2.2.2.2⟩
theorem OwnK.inc {w W W' : World} {S : Nat → Prop} {g gd gl sure n : Nat} {l : List (List UInt8)} {A : Option Addr} (h : OwnK w S g gd gl l sure W) (hi : IncRel W W' A n) (hA : ∀ i, A = some ⟨i, 0, none⟩ → w.heap.size ≤ i ∧ ¬ S i ∧ i ≠ gl) : OwnK w S g gd gl l sure W' :=
  ⟨h.1.turn hi.2 fun i hs he => (hA i he).2.1 hs, h.2.1, hi.2.blk h.2.2.1 (fun he => (hA gl he).2.2 rfl), below_turn h.2.2.2.1 (Nat.le_refl _) hi.2 (fun i he => (hA i he).1), h.2.2.2.2⟩
theorem js_atO {w : World} {T : Nat → Prop} {g gd : Nat} {l : List (List UInt8)} {sd : SlabS} (h : JS w T g gd (jL l) sd) (k : Nat) (hk : k < l.length) (x : List UInt8) (hx : l.getD k [] = x) : Calls Tryd.prog 26 #[.pointer (some ⟨g, 0, none⟩), .int .i64 (k : Int)] w fun e w' => ∃ A' c', e = .returned (.tuple #[.slice A' x.length c', .int .i64 0]) ∧ RdB w' (fun b => b < w'.heap.size) (.slice A' x.length c') x ∧ w'.ownsRow w.heap.size 5 1 (.slice A' x.length c') x.length (x.map bv) ∧ Below w.heap.size w w' := by
  obtain ⟨Y, Z, h1, h2, h3, h4, h5, h6⟩ := h
  subst hx
  refine (at_any Y g gd (jL l) k hk w h1).mono ?_
  rintro e w' ⟨A', c', he, q1, q3, q2⟩
  exact ⟨A', c', he, q1.mono fun i hi => hi.2, q3, q2⟩
theorem yields_convO {P : Program} {ops : Array Oper} {S : World → Prop} {op : Oper} {a : Act} (hw : Region.wanted op (yielded ops a.tmps) = true) (f t : TypeId) (x : Operand) (ho : op.op = .convert f t x) (vx : Value) (hx : a.eval x = vx) (v : Value) (hS : ∀ w, S w → (convert f t vx).run P w = .ok v w) : YieldsIf P ops S op v a :=
  .inl ⟨hw, fun w hw' => by
    unfold execOp
    simp only [ho, hx, Sem.run_bind, hS w hw', Sem.run_pure, Result.andThen_ok]⟩
theorem neq_sameS (b : List UInt8) (w : World) : (binOp .neq 9 (.string ⟨b.toArray⟩) (.string ⟨b.toArray⟩)).run Tryd.prog w = .ok (.bool false) w := by
  have := neq_str b b w
  simpa using this
set_option maxRecDepth 100000 in
set_option maxHeartbeats 8000000 in
theorem own_law (A : Option Addr) (c : Nat) (ps : List (List UInt8)) (w : World) (hT : Tables w) (hm : ps.length ≤ 140737488351232) (hr : RdP w (fun b => b < w.heap.size) A ps) :
    Calls Tryd.prog 8 #[.slice A ps.length c] w fun e w' => e = .returned (.bool true) ∧ Below w.heap.size w w' := by
  have HT := Lib.hid hT
  have HWR := Lib.hid (writes_any w hT)
  obtain ⟨n, hn⟩ : ∃ n, ps.length = n := ⟨_, rfl⟩
  rw [hn] at hm ⊢
  have HN := Lib.hid hn
  have HR := Lib.hid hr
  clear hT hr hn
  by_cases h12 : 10 < n
  · have e1 : decide ((n : Int) > 10) = true := decide_eq_true (by omega)
    go_enter Tryd.func8, Tryd.ntmps8
    go_wp2_with (go_at_call 10; refine HWR.out.mono ?_; rintro e W1 ⟨rfl, hb1⟩)
    go_ret
    exact ⟨rfl, hb1⟩
  · have e1 : decide ((n : Int) > 10) = false := decide_eq_false (by omega)
    have HN10 : Hid (n ≤ 10) := Lib.hid (by omega)
    have HZ32 : Hid (Array.replicate 32 (bv 0) = arr 32 fun _ => bv 0) := Lib.hid (by rw [← upto_none 32 (fun _ => bv 0) (bv 0)]; exact arr_congr fun i _ => by simp)
    go_enter Tryd.func8, Tryd.ntmps8
    go_wp2_with (go_at_call 10; refine HWR.out.mono ?_; rintro e W1 ⟨rfl, hb1⟩)
    refine (new_50000 W1).mono ?_
    rintro e W2 ⟨rfl, hd2, hb2⟩
    dsimp only
    have hb02 := hb1.trans (hb2.mono hb1.size)
    have HOP := Lib.hid (ss_open (l := []) (HT.out.below hb02) hd2 (by simp))
    have HD2 := Lib.hid (And.intro hb02 hb1.size)
    clear hd2 hb2 hb02 hb1
    go_upto_region 12 with (go_at_call 13; refine HOP.out.mono ?_; rintro e W3 ⟨g, S, rfl, hj3, ht3, hS3⟩)
    have hb3 := below_turn HD2.out.1 (Nat.le_refl _) ht3 (fun i hi => by rw [hi]; exact HD2.out.2)
    have hSw : ∀ i, S i → w.heap.size ≤ i := fun i hi => by
      rcases hS3 i hi with h | h
      · rw [h]
        exact HD2.out.2
      · exact Nat.le_trans HD2.out.1.size h
    obtain ⟨gl, hgl⟩ : ∃ gl, W3.heap.size = gl := ⟨_, rfl⟩
    generalize hW4 : World.alloc W3 _ = W4
    have k4 : Blk W4 gl 37 (arr 32 fun _ => bv 0) := by rw [← hW4]; exact Blk.newAt _ _ hgl HZ32.out
    have hb4 : Below W3.heap.size W3 W4 := by rw [← hW4]; exact (Below.refl _ _).alloc (Nat.le_refl _) _
    have HSTART : Hid (∃ S sure, OwnK w S g W1.heap.size gl [] sure W4) := Lib.hid ⟨S, 0, hj3.below hb4, fun i hi => ⟨hSw i hi, by rw [← hgl]; have := hj3.lt i hi; omega⟩, k4, hb3.trans (hb4.mono hb3.size), by rw [← hgl]; exact hb3.size⟩
    obtain ⟨gd, hgd⟩ : ∃ gd, W1.heap.size = gd := ⟨_, rfl⟩
    rw [hgd] at HSTART
    rw [hgl, hgd]
    clear hj3 ht3 hS3 hb3 hSw hb4 hgd hgl hW4 k4 HD2 HOP
    go_wp2_with fail
    go_loopw [37] (fun i wr => ∃ k : Nat, k ≤ n ∧ i = .int .i64 (k : Int) ∧ (∀ d ∈ ps.take k, d.length ≤ 300) ∧ ∃ S sure, OwnK w S g gd gl (ps.take k) sure wr) (fun i _ => n - (intOf i).toNat)
    case atStart => exact ⟨0, Nat.zero_le _, rfl, by simp, HSTART.out⟩
    case round =>
      clear HSTART
      obtain ⟨k, hk, rfl, hl3, S, sure, hok⟩ := hrel
      by_cases hkn : k < n
      · have hki : (k : Int) < (n : Int) := by omega
        obtain ⟨ad, v, rfl, hok', hcell, hrd⟩ := HR.out k (by rw [HN.out]; exact hkn)
        have hbw := hok.2.2.2.1
        have hcw := (hbw.cell (p := ad.add k) (by rw [block_add]; exact hok')).trans hcell
        obtain ⟨d, hd⟩ : ∃ d, ps.getD k [] = d := ⟨_, rfl⟩
        have htk : ps.take (k + 1) = ps.take k ++ [d] := by
          have hl : k < ps.length := by rw [HN.out]; exact hkn
          rw [List.take_succ_eq_append_getElem hl, ← hd, List.getD_eq_getElem?_getD, List.getElem?_eq_getElem hl]
          rfl
        rw [hd] at hrd
        obtain ⟨Ae, ce, rfl, _⟩ := id hrd
        obtain ⟨m, hdm⟩ : ∃ m, d.length = m := ⟨_, rfl⟩
        rw [hdm] at hrd hcw
        have HRD := Lib.hid hrd
        have HDM := Lib.hid hdm
        have HTK := Lib.hid htk
        have HOK := Lib.hid hok
        have HL3 := Lib.hid hl3
        clear hcell hrd hd hdm htk hok hl3 hok'
        by_cases h300 : 300 < m
        · have e4 : decide ((m : Int) > 300) = true := decide_eq_true (by omega)
          go_wp2
          go_ret
          exact ⟨rfl, hbw⟩
        · have e4 : decide ((m : Int) > 300) = false := decide_eq_false (by omega)
          have HL4 : Hid (∀ x ∈ ps.take (k + 1), x.length ≤ 300) := Lib.hid fun x hx => by
            rw [HTK.out] at hx
            rcases List.mem_append.1 hx with hx | hx
            · exact HL3.out x hx
            · rw [List.mem_singleton.1 hx, HDM.out]
              omega
          have HDR : Hid (∀ W, Below w.heap.size w W → RdB W (fun i => i < W.heap.size) (.slice Ae m ce) d) := Lib.hid fun W hb => (HRD.out.kept fun i x hi h => (hb.cell (p := i) hi).trans h).mono fun i hi => Nat.lt_of_lt_of_le hi hb.size
          obtain ⟨A3, c3, w3, run3, own3, hb3⟩ := mine_part (HDR.out wr hbw) (fun i hi => hi) (by omega)
          have HRUN := Lib.hid run3
          have HK3 := Lib.hid (HOK.out.below hb3)
          have HLE : Hid ((ps.take k).length = k) := Lib.hid (by rw [List.length_take, HN.out]; omega)
          have HWY : Hid (writeJ (jL (ps.take k)) (sL 50000 (ps.take k) sure) d = (jL (ps.take (k + 1)), sL 50000 (ps.take (k + 1)) (recsT zeroD (ps.take (k + 1))).length, 0)) := Lib.hid (by
            rw [HTK.out]
            have := recs_le HL3.out
            have := HLE.out
            have := HN10.out
            exact write_yes 50000 _ sure d (by rw [HDM.out]; omega) (by rw [HDM.out]; omega))
          have hlt3 := HOK.out.1.lt
          have hwc := js_write A3 m c3 d (HT.out.below HK3.out.2.2.2.1) HK3.out.1 (by show (ps.take k).length < 100000000; have := HLE.out; have := HN10.out; omega) ((rdB_own own3 HDM.out (by omega)).mono fun b hb => ⟨hb.2, fun hs => by have := hlt3 b hs; omega⟩)
          rw [HWY.out] at hwc
          have HWC := Lib.hid hwc
          have HO3 := Lib.hid (And.intro own3 (And.intro hb3 hlt3))
          clear run3 own3 hb3 hwc hlt3 hbw
          go_upto_region 20 with (first
            | (at_builtin; refine wpList_append_run rfl (.tmp 45) (.tmp 46) _ _ rfl _ _ rfl rfl _ _ HRUN.out ?_)
            | (go_at_call 16; refine HWC.out.mono ?_; rintro ev W4 ⟨rfl, S4, hj4, ht4, hS4⟩))
          have hb4 := below_turn HK3.out.2.2.2.1 (Nat.le_refl _) ht4 (fun i hi => (HK3.out.2.1 i hi).1)
          have hgl3 := HK3.out.2.2.1.lt
          have hS4w : ∀ i, S4 i → w.heap.size ≤ i ∧ i ≠ gl := fun i hi => by
            rcases hS4 i hi with h | h
            · exact HK3.out.2.1 i h
            · have := HK3.out.2.2.2.1.size
              omega
          have hk4 : Blk W4 gl 37 (arr 32 fun i => bv (lastT zeroD (ps.take k) i)) := ht4.blk HK3.out.2.2.1 (fun h => (HK3.out.2.1 gl h).2 rfl)
          have own4 := ht4.own HO3.out.1 (fun b hb h => by have := HO3.out.2.2 b h; have := (HO3.out.1.lt b hb).1; omega)
          have hcv := str_rd (HDR.out W4 hb4)
          have hlk := refLink_any (lastT zeroD (ps.take k)) d (by rw [HDM.out]; omega) W4
          have hlast : withD (lastT zeroD (ps.take k)) d = lastT zeroD (ps.take (k + 1)) := by rw [HTK.out, lastT_snoc]
          rw [hlast] at hlk
          obtain ⟨lk, hlkn⟩ : ∃ lk, lastT zeroD (ps.take k) = lk := ⟨_, rfl⟩
          obtain ⟨lk1, hlk1⟩ : ∃ lk1, lastT zeroD (ps.take (k + 1)) = lk1 := ⟨_, rfl⟩
          rw [hlkn] at hk4 hlk
          rw [hlk1] at hlk
          have HLK := Lib.hid hlk
          have HK1 := Lib.hid hlk1
          have HB4 := Lib.hid (And.intro hb4 (And.intro hS4w own4))
          have HJ4 := Lib.hid hj4
          have HGL := Lib.hid (And.intro hgl3 hk4.lt)
          have HAB : Hid (∀ i, A3 = some ⟨i, 0, none⟩ → w.heap.size ≤ i ∧ ¬ S4 i ∧ i ≠ gl) := Lib.hid fun i he => by
            have h1 := HO3.out.1.lt i (own_block_of he)
            have h2 := HOK.out.2.2.2.1.size
            have h3 := HOK.out.2.2.1.lt
            refine ⟨by omega, fun hs => ?_, by omega⟩
            rcases hS4 i hs with h | h
            · have := HO3.out.2.2 i h
              omega
            · omega
          clear hb4 hgl3 hS4w own4 hlk hlast hlkn hlk1 hj4 ht4 hS4
          go_upto_region 21 with (first
            | (guard_target = wpList _ _ _ (Oper.mk _ (.load 37 _) _ _ _ _ :: _) _ _; refine wpList_load_row rfl 37 _ rfl gl rfl 37 _ (0, 0) _ hk4 Tryd.underlying37 rfl (by rw [arr_size]; kernel_rfl) ?_)
            | (go_at_call 29; refine HLK.out.mono ?_; rintro ev W5 ⟨rfl, hb5⟩; have hk5 := hk4.below hb5 hk4.lt; have HB5 := Lib.hid hb5; clear hb5)
            | (guard_target = wpList _ _ _ (Oper.mk _ (.store 37 _ _) _ _ _ _ :: _) _ _; refine wpList_store_row rfl 37 _ _ rfl gl (arr 32 fun i => bv (lk1 i)) rfl rfl 37 _ hk5 (by rw [arr_size]; kernel_rfl) (by rw [arr_size, arr_size]) (arr_all_bv _ _) ?_))
          obtain ⟨W6, hW6⟩ : ∃ W6, W5.setRow gl (arr 32 fun i => bv (lk1 i)) = W6 := ⟨_, rfl⟩
          rw [hW6]
          have t6 : Turn (fun i => i = gl) W5 W6 := by rw [← hW6]; exact turn_setRow W5 gl _
          have k6 : Blk W6 gl 37 (arr 32 fun i => bv (lk1 i)) := by rw [← hW6]; exact hk5.setRow _
          have HK6 : Hid (OwnK w S4 g gd gl (ps.take (k + 1)) (recsT zeroD (ps.take (k + 1))).length W6) := Lib.hid ⟨(HJ4.out.below HB5.out).turn t6 fun i hi e => (HB4.out.2.1 i hi).2 e, HB4.out.2.1, by rw [HK1.out]; exact k6, below_turn (HB4.out.1.trans (HB5.out.mono HB4.out.1.size)) (Nat.le_refl _) t6 (fun i hi => by rw [hi]; exact HOK.out.2.2.2.2), HOK.out.2.2.2.2⟩
          have own6 : W6.ownsRow wr.heap.size 5 1 (.slice A3 m c3) m (d.map bv) := t6.own ((Turn.of_new HB5.out (fun _ => False)).own HB4.out.2.2 (fun _ _ h => h)) (fun b hb e => by have := (HO3.out.1.lt b hb).1; have := HOK.out.2.2.1.lt; omega)
          have HO6 := Lib.hid own6
          clear hW6 t6 k6 own6 hk4 hk5 hcv
          obtain ⟨wz, hwz⟩ : ∃ z, z = wr := ⟨_, rfl⟩
          subst hwz
          go_wp2_with fail
          go_loopw [58] (fun i wx => ∃ q : Nat, q ≤ m ∧ i = .int .i64 (q : Int) ∧ IncRel W6 wx A3 m) (fun i _ => m - (intOf i).toNat)
          case atStart => exact ⟨0, Nat.zero_le _, rfl, inc_start HO6.out⟩
          case round =>
            obtain ⟨q, hq, rfl, hinc⟩ := hrel
            by_cases hqm : q < m
            · obtain ⟨GB, rfl⟩ := own_addr HO6.out (by omega)
              obtain ⟨y, hcc, hff, hnext⟩ := inc_open hinc hqm
              have HNX := Lib.hid hnext
              have hqi : (q : Int) < (m : Int) := by omega
              clear hinc hnext
              go_wp2
              go_roundw
              case rel => exact ⟨q + 1, by omega, by go_num, HNX.out _⟩
              case measure =>
                simp [intOf]
                omega
            · obtain rfl : q = m := by omega
              have HK7 := Lib.hid (HK6.out.inc hinc HAB.out)
              clear hinc
              have HLE1 : Hid (k < (ps.take (k + 1)).length) := Lib.hid (by rw [List.length_take, HN.out]; omega)
              have hgd : (ps.take (k + 1)).getD k [] = d := by
                rw [HTK.out, List.getD_eq_getElem?_getD, List.getElem?_append_right (by rw [HLE.out]; exact Nat.le_refl _), HLE.out, Nat.sub_self]
                rfl
              have HAT : Hid (∀ W, OwnK w S4 g gd gl (ps.take (k + 1)) (recsT zeroD (ps.take (k + 1))).length W → Calls Tryd.prog 26 #[.pointer (some ⟨g, 0, none⟩), .int .i64 (k : Int)] W fun e w' => ∃ A' c', e = .returned (.tuple #[.slice A' q c', .int .i64 0]) ∧ RdB w' (fun b => b < w'.heap.size) (.slice A' q c') d ∧ w'.ownsRow W.heap.size 5 1 (.slice A' q c') q (d.map bv) ∧ Below W.heap.size W w') := Lib.hid fun W hk => by
                have h := js_atO hk.1 k HLE1.out d hgd
                rw [HDM.out] at h
                exact h
              clear hgd
              go_upto_region 27 with (go_at_call 26; refine (HAT.out _ HK7.out).mono ?_; rintro ev W8 ⟨A5, c5, rfl, hr8, ho8, hb8⟩)
              have HK8 := Lib.hid (HK7.out.below hb8)
              have HR8 := Lib.hid hr8
              have HO8 := Lib.hid (And.intro ho8 (HK7.out.2.2.2.1.size))
              have hsz8 := hb8.size
              have HAB5 : Hid (∀ i, A5 = some ⟨i, 0, none⟩ → w.heap.size ≤ i ∧ ¬ S4 i ∧ i ≠ gl) := Lib.hid fun i he => by
                have h1 := ho8.lt i (own_block_of he)
                have h2 := HK7.out.2.2.2.1.size
                have h3 := HK7.out.2.2.1.lt
                exact ⟨by omega, fun hs => by have := HK7.out.1.lt i hs; omega, by omega⟩
              have HCA : Hid (∀ W', Below W8.heap.size W8 W' → (convert 42 9 (.slice A5 q c5)).run Tryd.prog W' = .ok (.string ⟨d.toArray⟩) W') := Lib.hid fun W' hb => str_rd (HR8.out.kept fun a x ha h => (hb.cell (p := a) ha).trans h)
              have HCB : Hid (∀ W', Below W8.heap.size W8 W' → (convert 42 9 (.slice Ae q ce)).run Tryd.prog W' = .ok (.string ⟨d.toArray⟩) W') := Lib.hid fun W' hb => str_rd (HDR.out W' (HK8.out.2.2.2.1.trans (hb.mono HK8.out.2.2.2.1.size)))
              have hns := neq_sameS d
              have hsm := neq_sameJ (lastT zeroD (ps.take (k + 1)))
              have hbX : Below W8.heap.size W8 W8.drew := (Below.refl _ _).drew
              clear hr8 ho8 hb8 hsz8
              refine wp_region_held_drew (S := fun W' => Below W8.heap.size W8 W') (by kernel_rfl) ?_ (fun hHeld => ?_)
              · exact hbX
              refine wpAnyH_take (i := 0) (oi := ⟨some 74, _, _, _, _, _⟩) (v := ?_) rfl (by kernel_rfl) (by kernel_rfl) (by kernel_rfl) (fun _ _ _ h => h) (Or.inl ⟨by rfl, ?_⟩) (by assumption) ?_
              rotate_left
              · intro w hSw; (try dsimp only at hSw); go_simp; try (with_reducible rfl)
              rotate_left 0
              try simp only [Act.put, List.setIfInBounds_toArray, List.set_cons_zero, List.set_cons_succ]
              refine wpAnyH_take (i := 1) (oi := ⟨some 75, _, _, _, _, _⟩) (v := ?_) rfl (by kernel_rfl) (by kernel_rfl) (by kernel_rfl) (fun _ _ _ h => h) (Or.inl ⟨by rfl, ?_⟩) (by assumption) ?_
              rotate_left
              · intro w hSw; (try dsimp only at hSw); go_simp; try (with_reducible rfl)
              rotate_left 0
              try simp only [Act.put, List.setIfInBounds_toArray, List.set_cons_zero, List.set_cons_succ]
              refine wpAnyH_take (i := 2) (oi := ⟨some 76, _, _, _, _, _⟩) (v := ?_) rfl (by kernel_rfl) (by kernel_rfl) (by kernel_rfl) (fun _ _ _ h => h) (Or.inl ⟨by rfl, ?_⟩) (by assumption) ?_
              rotate_left
              · intro w hSw; (try dsimp only at hSw); go_simp; try (with_reducible rfl)
              rotate_left 0
              try simp only [Act.put, List.setIfInBounds_toArray, List.set_cons_zero, List.set_cons_succ]
              refine wpAnyH_take (i := 3) (oi := ⟨some 77, _, _, _, _, _⟩) (v := ?_) rfl (by kernel_rfl) (by kernel_rfl) (by kernel_rfl) (fun _ _ _ h => h) (Or.inl ⟨by rfl, ?_⟩) (by assumption) ?_
              rotate_left
              · intro w hSw; (try dsimp only at hSw); go_simp; try (with_reducible rfl)
              rotate_left 0
              try simp only [Act.put, List.setIfInBounds_toArray, List.set_cons_zero, List.set_cons_succ]
              refine wpAnyH_take (i := 4) (oi := ⟨some 78, _, _, _, _, _⟩) (v := (.string ⟨d.toArray⟩)) rfl (by kernel_rfl) (by kernel_rfl) (by kernel_rfl) (fun _ _ _ h => h) (yields_convO (by rfl) 42 9 _ rfl (.slice A5 q c5) rfl _ (fun W' hS => HCA.out W' hS)) (by assumption) ?_
              try simp only [Act.put, List.setIfInBounds_toArray, List.set_cons_zero, List.set_cons_succ]
              refine wpAnyH_take (i := 5) (oi := ⟨some 79, _, _, _, _, _⟩) (v := ?_) rfl (by kernel_rfl) (by kernel_rfl) (by kernel_rfl) (fun _ _ _ h => h) (Or.inl ⟨by rfl, ?_⟩) (by assumption) ?_
              rotate_left
              · intro w hSw; (try dsimp only at hSw); go_simp; try (with_reducible rfl)
              rotate_left 0
              try simp only [Act.put, List.setIfInBounds_toArray, List.set_cons_zero, List.set_cons_succ]
              refine wpAnyH_take (i := 6) (oi := ⟨some 80, _, _, _, _, _⟩) (v := (.string ⟨d.toArray⟩)) rfl (by kernel_rfl) (by kernel_rfl) (by kernel_rfl) (fun _ _ _ h => h) (yields_convO (by rfl) 42 9 _ rfl (.slice Ae q ce) rfl _ (fun W' hS => HCB.out W' hS)) (by assumption) ?_
              try simp only [Act.put, List.setIfInBounds_toArray, List.set_cons_zero, List.set_cons_succ]
              refine wpAnyH_take (i := 7) (oi := ⟨some 81, _, _, _, _, _⟩) (v := ?_) rfl (by kernel_rfl) (by kernel_rfl) (by kernel_rfl) (fun _ _ _ h => h) (Or.inl ⟨by rfl, ?_⟩) (by assumption) ?_
              rotate_left
              · intro w hSw; (try dsimp only at hSw); go_simp; try (with_reducible rfl)
              rotate_left 0
              try simp only [Act.put, List.setIfInBounds_toArray, List.set_cons_zero, List.set_cons_succ]
              refine wpAnyH_take (i := 8) (oi := ⟨some 82, _, _, _, _, _⟩) (v := ?_) rfl (by kernel_rfl) (by kernel_rfl) (by kernel_rfl) (fun _ _ _ h => h) (Or.inl ⟨by rfl, ?_⟩) (by assumption) ?_
              rotate_left
              · intro w hSw; (try dsimp only at hSw); go_simp; try (with_reducible rfl)
              rotate_left 0
              try simp only [Act.put, List.setIfInBounds_toArray, List.set_cons_zero, List.set_cons_succ]
              refine wpAnyH_take (i := 9) (oi := ⟨some 83, _, _, _, _, _⟩) (v := ?_) rfl (by kernel_rfl) (by kernel_rfl) (by kernel_rfl) (fun _ _ _ h => h) (Or.inl ⟨by rfl, ?_⟩) (by assumption) ?_
              rotate_left
              · intro w hSw; (try dsimp only at hSw); go_simp; try (with_reducible rfl)
              rotate_left 0
              try simp only [Act.put, List.setIfInBounds_toArray, List.set_cons_zero, List.set_cons_succ]
              refine wpAnyH_take (i := 10) (oi := ⟨some 84, _, _, _, _, _⟩) (v := ?_) rfl (by kernel_rfl) (by kernel_rfl) (by kernel_rfl) (fun _ _ _ h => h) (Or.inl ⟨by rfl, ?_⟩) (by assumption) ?_
              rotate_left
              · intro w hSw; (try dsimp only at hSw); go_simp; try (with_reducible rfl)
              rotate_left 0
              try simp only [Act.put, List.setIfInBounds_toArray, List.set_cons_zero, List.set_cons_succ]
              refine wpAnyH_take (i := 12) (oi := ⟨some 86, _, _, _, _, _⟩) (v := (.agg (arr 32 fun i => bv (lastT zeroD (ps.take (k + 1)) i)))) rfl (by kernel_rfl) (by kernel_rfl) (by kernel_rfl) (fun _ _ _ h => h) (yieldsIf_load_blk (by rfl) 37 _ rfl gl rfl 37 _ _ (fun W' hS => (HK8.out.below hS).2.2.1) Tryd.underlying37 rfl (by rw [arr_size]; kernel_rfl)) (by assumption) ?_
              try simp only [Act.put, List.setIfInBounds_toArray, List.set_cons_zero, List.set_cons_succ]
              refine wpAnyH_ready (rs := [11]) (by kernel_rfl) (by simp) ?_
              refine (AllReadyH.cons (o := ⟨some 85, _, _, _, _, _⟩) rfl (fun K hK => ?_) AllReadyH.nil)
              (try rw [if_pos (by rfl)])
              go_simp
              refine (js_lastL (HK8.out.below hbX).1).mono ?_
              rintro ev WX ⟨rfl, hbl⟩
              replace hbX := hbX.trans (hbl.mono hbX.size)
              try dsimp only
              refine hK.out _ _ (hbX) (fun hHeld => ?_)
              clear hK K
              try simp only [Act.put, List.setIfInBounds_toArray, List.set_cons_zero, List.set_cons_succ]
              refine wpAnyH_take (i := 13) (oi := ⟨some 87, _, _, _, _, _⟩) (v := ?_) rfl (by kernel_rfl) (by kernel_rfl) (by kernel_rfl) (fun _ _ _ h => h) (Or.inl ⟨by rfl, ?_⟩) (by assumption) ?_
              rotate_left
              · intro w hSw; (try dsimp only at hSw); go_simp; try (with_reducible rfl)
              rotate_left 0
              try simp only [Act.put, List.setIfInBounds_toArray, List.set_cons_zero, List.set_cons_succ]
              refine wpAnyH_take (i := 14) (oi := ⟨some 88, _, _, _, _, _⟩) (v := ?_) rfl (by kernel_rfl) (by kernel_rfl) (by kernel_rfl) (fun _ _ _ h => h) (Or.inl ⟨by rfl, ?_⟩) (by assumption) ?_
              rotate_left
              · intro w hSw; (try dsimp only at hSw); go_simp; try (with_reducible rfl)
              rotate_left 0
              try simp only [Act.put, List.setIfInBounds_toArray, List.set_cons_zero, List.set_cons_succ]
              refine wpAnyH_done (by kernel_rfl) ?_ _
              have HX := Lib.hid hbX
              have HK9 := Lib.hid (HK8.out.below hbX)
              have HO9 := Lib.hid (And.intro (ownsRow_kept HO8.out.1 hbX) hbX)
              clear hbX
              obtain ⟨wz, hwz⟩ : ∃ z, z = wr := ⟨_, rfl⟩
              subst hwz
              go_wp2_with fail
              go_loopw [91] (fun i wx => ∃ p : Nat, p ≤ q ∧ i = .int .i64 (p : Int) ∧ IncRel WX wx A5 q) (fun i _ => q - (intOf i).toNat)
              case atStart => exact ⟨0, Nat.zero_le _, rfl, inc_start HO9.out.1⟩
              case round =>
                obtain ⟨p, hp, rfl, hinc⟩ := hrel
                by_cases hpq : p < q
                · obtain ⟨GB, rfl⟩ := own_addr HO9.out.1 (by omega)
                  obtain ⟨y, hcc, hff, hnext⟩ := inc_open hinc hpq
                  have HNX := Lib.hid hnext
                  have hpi : (p : Int) < (q : Int) := by omega
                  clear hinc hnext
                  go_wp2
                  go_roundw
                  case rel => exact ⟨p + 1, by omega, by go_num, HNX.out _⟩
                  case measure =>
                    simp [intOf]
                    omega
                · obtain rfl : p = q := by omega
                  have HK10 := Lib.hid (HK9.out.inc hinc HAB5.out)
                  clear hinc
                  go_upto_region 35 with (go_at_call 26; refine (HAT.out _ HK10.out).mono ?_; rintro ev W12 ⟨A6, c6, rfl, hr12, ho12, hb12⟩)
                  have HK12 := Lib.hid (HK10.out.below hb12)
                  have hcx := str_rd hr12
                  have hcy := str_rd (HDR.out W12 HK12.out.2.2.2.1)
                  clear hr12 ho12 hb12
                  go_wp2_with fail
                  go_roundw
                  case rel => exact ⟨k + 1, by omega, by go_num, HL4.out, S4, _, HK12.out⟩
                  case measure =>
                    simp [intOf]
                    omega
      · obtain rfl : k = n := by omega
        have HB := Lib.hid hok.2.2.2.1
        clear hok
        go_wp2
        go_ret
        exact ⟨rfl, HB.out⟩
end Go.Proofs.YtbmogeafhmejbaaDoor
