/-
  Rows of texts that are put together; short's textsOf: of any entry, place, size and path, in whatever memory in which the tables lie. No condition.
-/
import Derived.Test.YtlnapnbccojohaaDoorShMath
import Derived.Deep.RegionHeld3
import Derived.Deep.CutRange
import Derived.WalkMore
namespace Go.Proofs.YtlnapnbccojohaaDoor
open Go Go.RowKit Go.Shelf TreeM

theorem sh_info_row : (Tryd.prog.info? 50).map (fun i => (i.zero, i.size, i.bytes)) = some (some (.slice none 0 0), 1, 24) := by kernel_rfl
def TxtOk (W : World) (B : Nat) (v : Value) (b : Nat) : Prop := B ≤ b ∧ b < W.heap.size ∧ v.ownBlock ≠ some b
/-- A row of the call's own that holds these texts. -/
def TxtAt (W : World) (B : Nat) (v : Value) (m : Nat) (ts : List (List UInt8)) : Prop :=
  ∃ vs, W.ownsRow B 50 1 v m vs ∧ ts.length = m ∧ ∀ k, k < m → ∃ u, vs[k]? = some u ∧ RdB W (TxtOk W B v) u (ts.getD k [])
set_option maxRecDepth 100000 in
theorem rd_below {W W' : World} {B : Nat} {v u : Value} {t : List UInt8} (h : RdB W (TxtOk W B v) u t) (hb : Below W.heap.size W W') : RdB W' (TxtOk W' B v) u t :=
  (h.kept fun a _x ha hx => (hb.cell (p := a) ha.2.1).trans hx).mono fun _b hb' => ⟨hb'.1, Nat.lt_of_lt_of_le hb'.2.1 hb.size, hb'.2.2⟩
set_option maxRecDepth 100000 in
theorem TxtAt.below {W W' : World} {B m : Nat} {v : Value} {ts : List (List UInt8)} (h : TxtAt W B v m ts) (hb : Below W.heap.size W W') : TxtAt W' B v m ts := by
  obtain ⟨vs, h1, h2, h3⟩ := h
  refine ⟨vs, Turn.own (Turn.of_below hb) h1 (fun i hi => by have := (h1.lt i hi).2; omega), h2, fun k hk => ?_⟩
  obtain ⟨u, hu, hr⟩ := h3 k hk
  exact ⟨u, hu, rd_below hr hb⟩
set_option maxRecDepth 100000 in
theorem TxtAt.more {W : World} {B m : Nat} {v : Value} {ts : List (List UInt8)} (h : TxtAt W B v m ts) (hB : B ≤ W.heap.size) {A : Option Addr} {n c : Nat} {t : List UInt8} (hr : RdB W (TxtOk W B v) (.slice A n c) t) (hm : m ≤ 1000) :
    ∃ g cap W', (Builtin.append_ #[39, 39] 39 #[v, .slice (some ⟨W.heap.size, 0, none⟩) 1 1]).run Tryd.prog (W.alloc (.cells #[.slice A n c] 50)) = .ok (.slice (some ⟨g, 0, none⟩) (m + 1) cap) W' ∧
      TxtAt W' B (.slice (some ⟨g, 0, none⟩) (m + 1) cap) (m + 1) (ts ++ [t]) ∧ RdB W' (TxtOk W' B (.slice (some ⟨g, 0, none⟩) (m + 1) cap)) (.slice A n c) t ∧ Below B W W' := by
  obtain ⟨vs, h1, h2, h3⟩ := h
  have hb : Below W.heap.size W (W.alloc (.cells #[.slice A n c] 50)) := (Below.refl _ _).alloc (Nat.le_refl _) _
  have o1 := Turn.own (Turn.of_below hb) h1 (fun i hi => by have := (h1.lt i hi).2; omega)
  have hg0 : Blk (W.alloc (.cells #[.slice A n c] 50)) W.heap.size 50 #[.slice A n c] := Blk.new W _ _
  obtain ⟨i0, hi, hz0, hz1, hz2⟩ := info_parts sh_info_row
  obtain ⟨v', W', hrun, hown', hgr, _, hbl⟩ := run_append_own_at (P := Tryd.prog) (W.alloc (.cells #[.slice A n c] 50)) B 39 39 50 i0 (.slice none 0 0) 1 24 Tryd.underlying39 hi hz0 hz1 hz2 rfl (by omega) v m vs o1 ⟨W.heap.size, 0, none⟩ 1 1 [.slice A n c] rfl
    (fun j u hu => by
      rcases j with _ | j
      · cases hu
        rw [add_zero_block, hg0.cell]; rfl
      · cases hu) (fun u hu => (List.mem_singleton.1 hu) ▸ rfl) (by unfold maxLen; omega) (by omega) (Nat.le_trans hB hb.size)
  have hblk : ∀ b, b < W.heap.size → v.ownBlock ≠ some b → v'.ownBlock ≠ some b := fun b hb1 hb2 e => by
    rcases hbl with h | h
    · exact hb2 (h.symm.trans e)
    · rw [h] at e
      injection e with e
      have := hb.size
      omega
  have keep : ∀ {u : Value} {t : List UInt8}, RdB W (TxtOk W B v) u t → RdB W' (TxtOk W' B v') u t := fun hu =>
    (hu.kept fun a x ha hx => by
      have e1 := hb.block a.block ha.2.1
      have e2 := hgr.block a.block (Nat.lt_of_lt_of_le ha.2.1 hb.size) (fun e => ha.2.2 e.symm)
      exact (World.cell?_of_block (e2.trans e1)).trans hx).mono fun b hb' => ⟨hb'.1, by have := hgr.size; have := hb.size; have := hb'.2.1; omega, hblk b hb'.2.1 hb'.2.2⟩
  rcases ownsRow_forms' hown' with ⟨_, h0⟩ | ⟨g, cap, rfl⟩
  · omega
  · refine ⟨g, cap, W', hrun, ⟨_, hown', by simp [h2], fun k hk => ?_⟩, keep hr, (((Turn.refl (fun i => B ≤ i) W).alloc _).grown hgr (fun i hi _ => (o1.lt i hi).1)).below hB (fun i hi => by omega)⟩
    by_cases hkm : k < m
    · obtain ⟨u, hu, hru⟩ := h3 k hkm
      refine ⟨u, by rw [List.getElem?_append_left (by have := h1.1; have := (List.getElem?_eq_some_iff.1 hu).1; omega)]; exact hu, ?_⟩
      rw [List.getD_eq_getElem?_getD, List.getElem?_append_left (by omega), ← List.getD_eq_getElem?_getD]
      exact keep hru
    · obtain rfl : k = m := by omega
      have hvl : vs.length = k := by have := h1.1; omega
      refine ⟨.slice A n c, by rw [List.getElem?_append_right (by omega), hvl]; simp, ?_⟩
      rw [List.getD_eq_getElem?_getD, List.getElem?_append_right (by omega), h2]
      simp only [Nat.sub_self, List.getElem?_cons_zero, Option.getD_some]
      exact keep hr
set_option maxRecDepth 100000 in
theorem TxtAt.one {W : World} {A : Option Addr} {n c : Nat} {t : List UInt8} {B : Nat} (hB : B ≤ W.heap.size) (hr : RdB W (fun b => B ≤ b ∧ b < W.heap.size) (.slice A n c) t) :
    TxtAt (W.alloc (.cells #[.slice A n c] 50)) B (.slice (some ⟨W.heap.size, 0, none⟩) 1 1) 1 [t] ∧ RdB (W.alloc (.cells #[.slice A n c] 50)) (TxtOk (W.alloc (.cells #[.slice A n c] 50)) B (.slice (some ⟨W.heap.size, 0, none⟩) 1 1)) (.slice A n c) t := by
  have hb : Below W.heap.size W (W.alloc (.cells #[.slice A n c] 50)) := (Below.refl _ _).alloc (Nat.le_refl _) _
  have hr' : RdB (W.alloc (.cells #[.slice A n c] 50)) (TxtOk (W.alloc (.cells #[.slice A n c] 50)) B (.slice (some ⟨W.heap.size, 0, none⟩) 1 1)) (.slice A n c) t :=
    (hr.kept fun a x ha hx => (hb.cell (p := a) ha.2).trans hx).mono fun b hb' => ⟨hb'.1, Nat.lt_of_lt_of_le hb'.2 hb.size, fun e => by
      have e' : W.heap.size = b := by injection e
      have := hb'.2
      omega⟩
  refine ⟨⟨[.slice A n c], ⟨rfl, .inr ⟨W.heap.size, 1, #[.slice A n c], rfl, hB, heap_alloc_new W _, Nat.le_refl _, by unfold maxLen; omega, rfl, rfl⟩⟩, rfl, fun k hk => ?_⟩, hr'⟩
  obtain rfl : k = 0 := by omega
  exact ⟨_, rfl, hr'⟩
theorem rdo {W : World} {B : Nat} {v u : Value} {t : List UInt8} (h : RdB W (TxtOk W B v) u t) : RdB W (fun b => b < W.heap.size) u t := h.mono fun _ hb => hb.2.1
theorem TxtAt.ownlt {W : World} {B m : Nat} {v : Value} {ts : List (List UInt8)} (h : TxtAt W B v m ts) : ∀ i, v.ownBlock = some i → i < W.heap.size := fun i hi => by
  obtain ⟨vs, h1, _⟩ := h
  exact (h1.lt i hi).2
theorem rd_fresh {W W' : World} {B : Nat} {v u : Value} {t : List UInt8} (hB : B ≤ W.heap.size) (hr : RdB W' (fun b => W.heap.size ≤ b ∧ b < W'.heap.size) u t) (ho : ∀ i, v.ownBlock = some i → i < W.heap.size) : RdB W' (TxtOk W' B v) u t :=
  hr.mono fun b hb => ⟨Nat.le_trans hB hb.1, hb.2, fun e => by have := ho b e; omega⟩
theorem txt_drew {W : World} {B m : Nat} {v : Value} {ts : List (List UInt8)} (h : TxtAt W B v m ts) : TxtAt W.drew B v m ts := h
theorem rd_drew {W : World} {B : Nat} {v u : Value} {t : List UInt8} (h : RdB W (TxtOk W B v) u t) : RdB W.drew (TxtOk W.drew B v) u t := h
/-- What textsOf answers with. -/
def TextsIs (w W : World) (v : Value) (R : List (List UInt8)) : Prop := ∃ A cap, v = .slice A R.length cap ∧ R.length ≤ cap ∧ RdP W (fun b => w.heap.size ≤ b ∧ b < W.heap.size) A R
theorem TextsIs.nil (w W : World) : TextsIs w W (.slice none 0 0) [] := ⟨none, 0, rfl, Nat.le_refl _, fun k hk => by simp at hk⟩
set_option maxRecDepth 100000 in
theorem TxtAt.is {w W : World} {m : Nat} {v : Value} {ts : List (List UInt8)} (h : TxtAt W w.heap.size v m ts) : TextsIs w W v ts := by
  obtain ⟨vs, h1, h2, h3⟩ := h
  obtain ⟨A, c, rfl, hc⟩ := own_len h1
  refine ⟨A, c, by rw [h2], by rw [h2]; exact hc, fun k hk => ?_⟩
  obtain ⟨u, hu, hr⟩ := h3 k (by omega)
  rcases h1.2 with h0 | ⟨g, cap, cur, e, hB, hblk, hle, _, hsz, htk⟩
  · have := h0.1
    injection this with _ e
    omega
  · injection e with e1 e2 e3
    subst e1
    refine ⟨⟨g, 0, none⟩, u, rfl, ⟨hB, Blk.lt hblk⟩, ?_, hr.mono fun b hb => ⟨hb.1, hb.2.1⟩⟩
    rw [add_zero_block, Blk.cell hblk]
    rw [← htk, List.getElem?_take] at hu
    split at hu
    · rwa [Array.getElem?_toList] at hu
    · cases hu
set_option maxRecDepth 100000 in
set_option maxHeartbeats 4000000 in
theorem textsOf_any (c : Int) (Ae : Option Addr) (ne ce : Nat) (entry : List UInt8) (a n : Nat) (v : Value) (path : List D) (w : World) (hT : Tables w) (he : RdB w (fun b => b < w.heap.size) (.slice Ae ne ce) entry) (hne : entry.length = ne) (hle : ne ≤ 1000000) (ha : a < n) (hn : n ≤ 1099511627776) (hr : RdI w (fun b => b < w.heap.size) v path) (h70 : path.length ≤ 100) :
    Calls Tryd.prog 53 #[.int .i64 c, .slice Ae ne ce, .int .i64 (a : Int), .int .i64 (n : Int), v] w fun e w' => ∃ v', e = .returned v' ∧ TextsIs w w' v' (textsC c entry a n path) ∧ Below w.heap.size w w' := by
  obtain ⟨A4, c4, rfl, hlc, _⟩ := id hr
  obtain ⟨N, hN⟩ : ∃ N, path.length = N := ⟨_, rfl⟩
  rw [hN] at hr hlc h70 ⊢
  have HEN := Lib.hid (entryText_any Ae ne ce entry hne (by omega) w he)
  obtain ⟨R, hR⟩ : ∃ R, textsC c entry a n path = R := ⟨_, rfl⟩
  rw [hR]
  have HT := Lib.hid hT
  have HR0 := Lib.hid hr
  have hl1 : (n : Int) - 1 = ((n - 1 : Nat) : Int) := by omega
  have hni : (n : Int) ≤ 1099511627776 := by omega
  have hn1 : (1 : Int) ≤ (n : Int) := by omega
  have HA : Hid (a ≤ n - 1 ∧ n - 1 ≤ 1099511627776 ∧ N ≤ 100) := Lib.hid ⟨by omega, by omega, h70⟩
  have HRR : Hid (R = (if path.length = (stepsB a (n - 1)).length then [] ++ textsP c (stepsB a (n - 1)) path (0 :: entry) else [])) := Lib.hid (by rw [← hR]; rfl)
  have HNP := Lib.hid hN
  have HLE : Hid ((0 :: entry).length ≤ 2000000) := Lib.hid (by simp; omega)
  clear hR hT hr he hne hle ha hlc h70 hN
  go_enter Tryd.func53, Tryd.ntmps53
  go_wp2_with fail
  refine wp_scope_straight ?_
  go_wp2_with (go_at_call 61; refine HEN.out.mono ?_; rintro e W1 ⟨g1, cap1, rfl, hrd, hb1⟩; have HB1 := Lib.hid hb1; have H1 := Lib.hid (TxtAt.one hb1.size hrd); clear hb1 hrd HEN)
  refine wp_label ?_
  go_wp2_with fail
  have HW1 := Lib.hid HB1.out.size
  go_loopw [2, 4, 11, 12, 13] (fun s2 s4 s11 s12 s13 wr => ∃ (a l : Nat) (pth : List D) (A4 : Option Addr) (n4 c4 : Nat) (A11 : Option Addr) (n11 c11 : Nat) (v12 : Value) (text : List UInt8) (acc : List (List UInt8)), s2 = .int .i64 (a : Int) ∧ s4 = .slice A4 n4 c4 ∧ s11 = .slice A11 n11 c11 ∧ s12 = v12 ∧ s13 = .int .i64 (l : Int) ∧
    pth.length = n4 ∧ RdI w (fun b => b < w.heap.size) (.slice A4 n4 c4) pth ∧ TxtAt wr w.heap.size v12 (acc.length + 1) (acc ++ [text]) ∧ RdB wr (TxtOk wr w.heap.size v12) (.slice A11 n11 c11) text ∧ text.length ≤ 2000000 ∧ acc.length + n4 = N ∧ l ≤ 1099511627776 ∧ a ≤ l ∧
    R = (if pth.length = (stepsB a l).length then acc ++ textsP c (stepsB a l) pth text else []) ∧ Below w.heap.size w wr) (fun _ _ _ _ s13 _ => (intOf s13).toNat)
  case atStart => exact ⟨a, n - 1, path, A4, N, c4, some ⟨g1, 0, none⟩, ne + 1, cap1, _, 0 :: entry, [], rfl, rfl, rfl, rfl, rfl, HNP.out, HR0.out, H1.out.1, H1.out.2, HLE.out, by simp, HA.out.2.1, HA.out.1, HRR.out, HB1.out.alloc HB1.out.size _⟩
  case round =>
    clear H1 HRR
    obtain ⟨a, l, pth, A4, n4, c4, A11, n11, c11, v12, text, acc, rfl, rfl, rfl, rfl, rfl, hp, hr, htx, hrt, htl, hac, hl40, hal, hR, hbw⟩ := hrel
    have hl0' : (0 : Int) ≤ (l : Int) := by omega
    have hli : (l : Int) ≤ 1099511627776 := by omega
    have ha0 : (0 : Int) ≤ (a : Int) := by omega
    have hai : (a : Int) ≤ 1099511627776 := by omega
    by_cases hl0 : l = 0
    · subst hl0
      have hnp : ¬ (0 : Int) < ((0 : Nat) : Int) := by omega
      by_cases hp0 : n4 = 0
      · have hR' : R = acc ++ [text] := by
          have : pth = [] := List.eq_nil_of_length_eq_zero (by omega)
          subst this
          rw [hR, stepsB_end]
          simp [textsP]
        have hn4 : ¬ (0 : Int) < (n4 : Int) := by omega
        have HF := Lib.hid (And.intro htx.is (And.intro hbw hR'))
        clear hR htx hrt hp hr htl hac hR' hp0
        go_wp2
        go_ret
        exact ⟨_, rfl, by rw [HF.out.2.2]; exact HF.out.1, HF.out.2.1⟩
      · have hR' : R = [] := by
          rw [hR, stepsB_end, if_neg (by simp; exact fun h => hp0 (by rw [← hp, h]; rfl))]
        have hn4 : (0 : Int) < (n4 : Int) := by omega
        have HF := Lib.hid (And.intro hbw hR')
        clear hR htx hrt hp hr htl hac hR' hp0
        go_wp2
        go_ret
        exact ⟨_, rfl, by rw [HF.out.2]; exact TextsIs.nil _ _, HF.out.1⟩
    · have hlp : (0 : Int) < (l : Int) := by omega
      by_cases hsk : a = l ∧ a % 2 = 0
      · have e1 : ((a : Int) == (l : Int)) = true := by rw [hsk.1]; simp
        have e2 : ((a : Int) % 2 == 0) = true := by simp; omega
        have HF := Lib.hid (And.intro hp (And.intro hr (And.intro htx (And.intro hrt (And.intro htl (And.intro hac (And.intro (show l / 2 ≤ 1099511627776 by omega) (And.intro (show a / 2 ≤ l / 2 by omega) (And.intro (show R = _ by rw [hR, stepsB_skip hl0 hsk]) hbw)))))))))
        clear hR htx hrt hp hr htl hac hsk hbw hal hl40
        go_wp2
        go_roundw
        case rel => exact ⟨a / 2, l / 2, pth, A4, n4, c4, A11, n11, c11, _, text, acc, by go_num, rfl, rfl, rfl, by go_num, HF.out⟩
        case measure => simp [intOf]; omega
      · by_cases hod : a % 2 = 0
        · have hal1 : a ≠ l := fun h => hsk ⟨h, hod⟩
          have e1 : ((a : Int) == (l : Int)) = false := beq_eq_false_iff_ne.2 (by omega)
          have e2 : ((a : Int) % 2 == 0) = true := by simp; omega
          by_cases hp0 : n4 = 0
          · subst hp0
            have hR' : R = [] := by rw [hR, stepsB_step hl0 hsk, if_neg (by simp; omega)]
            have HF := Lib.hid (And.intro hbw hR')
            clear hR htx hrt hp hr htl hac hR' hbw
            go_wp2
            rw [Exit.noGoto_ret]
            go_ret
            exact ⟨_, rfl, by rw [HF.out.2]; exact TextsIs.nil _ _, HF.out.1⟩
          · have hn4 : ((n4 : Int) == 0) = false := beq_eq_false_iff_ne.2 (by omega)
            obtain ⟨ad, e, _, _⟩ := hr.at_ (show 0 < n4 by omega)
            subst e
            obtain ⟨x, hx⟩ : ∃ x, pth.getD 0 dz = x := ⟨_, rfl⟩
            have HLP : Hid (∀ W, Below w.heap.size w W → ∀ i, i < 32 → W.cell? ((ad.add 0).add i) = some (bv (x i))) := Lib.hid fun W hb => by
              obtain ⟨ad', e, _, hc⟩ := (hr.old hb).at_ (show 0 < n4 by omega)
              injection e with e
              subst e
              rw [hx] at hc
              exact hc
            have HSU : Hid (∀ W, Below w.heap.size w W → RdB W (fun b => b < W.heap.size) (.slice A11 n11 c11) text → Calls Tryd.prog 25 #[.int .i64 c, .slice A11 n11 c11] W fun e w' => e = .returned (.agg (arr 32 fun i => bv ((cutD c (sha text)) i))) ∧ Below W.heap.size W w') := Lib.hid fun W hb h => csum_any c _ text (by omega) W (HT.out.below hb) h
            have HSI : Hid (∀ W, Calls Tryd.prog 63 #[.agg (arr 32 fun i => bv ((cutD c (sha text)) i)), .agg (arr 32 fun i => bv (x i))] W fun e w' => ∃ g cap, e = .returned (.slice (some ⟨g, 0, none⟩) 65 cap) ∧ RdB w' (fun b => W.heap.size ≤ b ∧ b < w'.heap.size) (.slice (some ⟨g, 0, none⟩) 65 cap) (side c text false x) ∧ Below W.heap.size W w') := Lib.hid fun W => sidesText_any (cutD c (sha text)) x W
            have hsl : ∀ W, (Instr.sliceAt 24 (.slice (some ad) n4 c4) (some (.int .i64 1)) none none).run Tryd.prog W = .ok (.slice (cutI (some ad) c4 1) (n4 - 1) (c4 - 1)) W := fun W => run_slice_fromI (P := Tryd.prog) 24 23 Tryd.underlying24 (by kernel_rfl) (some ad) n4 c4 1 (by omega) W
            have hdp : (pth.drop 1).length = n4 - 1 := by rw [List.length_drop, hp]
            have hcons : pth = x :: pth.drop 1 := by
              rw [← hx]
              match pth, hp with
              | [], hp => simp at hp; omega
              | y :: ys, _ => rfl
            have HD := Lib.hid (And.intro hdp (And.intro (hr.drop (k := 1) (by omega)) (And.intro (show (acc ++ [text]).length + (n4 - 1) = N by simp; omega) (And.intro (show l / 2 ≤ 1099511627776 by omega) (And.intro (show a / 2 ≤ l / 2 by omega) (show R = (if (pth.drop 1).length = (stepsB (a / 2) (l / 2)).length then (acc ++ [text]) ++ textsP c (stepsB (a / 2) (l / 2)) (pth.drop 1) (side c text false x) else []) by
              rw [hR, stepsB_step hl0 hsk, hcons]
              simp only [List.length_cons, Nat.add_right_cancel_iff, List.drop_succ_cons, List.drop_zero]
              split
              · rw [List.append_assoc]
                simp [textsP, show ¬ a % 2 = 1 by omega]
              · rfl))))))
            have HC : Hid (acc.length + 1 ≤ 1000) := Lib.hid (by have := HA.out.2.2; omega)
            have hn4n : 0 < n4 := by omega
            have hni4 : (n4 : Int) ≤ 1000 := by have := HA.out.2.2; omega
            have hn1i : (1 : Int) ≤ (n4 : Int) := by omega
            have hbX := hbw.drew
            replace htx := txt_drew htx
            replace hrt := rd_drew hrt
            clear hR hr htl hac hdp hcons hx hp hsk hbw hp0 hal hl40
            go_upto_region 11 with fail
            refine wp_region_held_drew (S := fun W' => ∀ i, i < 32 → W'.cell? ((ad.add 0).add i) = some (bv (x i))) (by kernel_rfl) ?_ (fun hHeld => ?_)
            · exact HLP.out _ hbX
            refine wpAnyH_take (i := 0) (oi := ⟨some 50, _, _, _, _, _⟩) (v := ?_) rfl (by kernel_rfl) (by kernel_rfl) (by kernel_rfl) (fun _ _ _ h => h) (Or.inl ⟨by rfl, ?_⟩) (by assumption) ?_
            rotate_left
            · intro w hSw; (try dsimp only at hSw); go_simp; try (with_reducible rfl)
            rotate_left 0
            try simp only [Act.put, List.setIfInBounds_toArray, List.set_cons_zero, List.set_cons_succ]
            refine wpAnyH_take (i := 1) (oi := ⟨some 51, _, _, _, _, _⟩) (v := ?_) rfl (by kernel_rfl) (by kernel_rfl) (by kernel_rfl) (fun _ _ _ h => h) (Or.inl ⟨by rfl, ?_⟩) (by assumption) ?_
            rotate_left
            · intro w hSw; (try dsimp only at hSw); go_simp; try (with_reducible rfl)
            rotate_left 0
            try simp only [Act.put, List.setIfInBounds_toArray, List.set_cons_zero, List.set_cons_succ]
            refine wpAnyH_take (i := 3) (oi := ⟨some 53, _, _, _, _, _⟩) (v := ?_) rfl (by kernel_rfl) (by kernel_rfl) (by kernel_rfl) (fun _ _ _ h => h) (Or.inl ⟨by rfl, ?_⟩) (by assumption) ?_
            rotate_left
            · intro w hSw; (try dsimp only at hSw); go_simp; try (with_reducible rfl)
            rotate_left 0
            try simp only [Act.put, List.setIfInBounds_toArray, List.set_cons_zero, List.set_cons_succ]
            refine wpAnyH_take (i := 4) (oi := ⟨some 54, _, _, _, _, _⟩) (v := ?_) rfl (by kernel_rfl) (by kernel_rfl) (by kernel_rfl) (fun _ _ _ h => h) (Or.inl ⟨by rfl, ?_⟩) (by assumption) ?_
            rotate_left
            · intro w hSw; (try dsimp only at hSw); go_simp; try (with_reducible rfl)
            rotate_left 0
            try simp only [Act.put, List.setIfInBounds_toArray, List.set_cons_zero, List.set_cons_succ]
            refine wpAnyH_take (i := 5) (oi := ⟨some 55, _, _, _, _, _⟩) (v := (.agg (arr 32 fun i => bv (x i)))) rfl (by kernel_rfl) (by kernel_rfl) (by kernel_rfl) (fun _ _ _ h => h) (yieldsIf_load_at (by rfl) 23 _ rfl (ad.add 0) rfl 32 (fun i => bv (x i)) 5 (fun _ hS => hS) Tryd.underlying23 (by kernel_rfl)) (by assumption) ?_
            try simp only [Act.put, List.setIfInBounds_toArray, List.set_cons_zero, List.set_cons_succ]
            refine wpAnyH_ready (rs := [2]) (by kernel_rfl) (by simp) ?_
            refine (AllReadyH.cons (o := ⟨some 52, _, _, _, _, _⟩) rfl (fun K hK => ?_) AllReadyH.nil)
            (try rw [if_pos (by rfl)])
            go_simp
            refine (HSU.out _ hbX (rdo hrt)).mono ?_
            rintro e Wa ⟨rfl, hba⟩
            replace htx := TxtAt.below htx hba
            replace hrt := rd_below hrt hba
            replace hbX := hbX.trans (hba.mono hbX.size)
            clear hba
            try dsimp only
            refine hK.out _ _ (HLP.out _ hbX) (fun hHeld => ?_)
            clear hK K
            try simp only [Act.put, List.setIfInBounds_toArray, List.set_cons_zero, List.set_cons_succ]
            refine wpAnyH_ready (rs := [6]) (by kernel_rfl) (by simp) ?_
            refine (AllReadyH.cons (o := ⟨some 56, _, _, _, _, _⟩) rfl (fun K hK => ?_) AllReadyH.nil)
            (try rw [if_pos (by rfl)])
            go_simp
            refine (HSI.out _).mono ?_
            rintro e Wb ⟨gs, cs, rfl, hrs, hbb⟩
            have hown := htx.ownlt
            replace htx := TxtAt.below htx hbb
            have hrs2 := rd_fresh hbX.size hrs hown
            replace hbX := hbX.trans (hbb.mono hbX.size)
            clear hbb hrs hown hrt
            try dsimp only
            refine hK.out _ _ (HLP.out _ hbX) (fun hHeld => ?_)
            clear hK K
            try simp only [Act.put, List.setIfInBounds_toArray, List.set_cons_zero, List.set_cons_succ]
            refine wpAnyH_take (i := 7) (oi := ⟨some 11, _, _, _, _, _⟩) (v := ?_) rfl (by kernel_rfl) (by kernel_rfl) (by kernel_rfl) (fun _ _ _ h => h) (Or.inl ⟨by rfl, ?_⟩) (by assumption) ?_
            rotate_left
            · intro w hSw; (try dsimp only at hSw); go_simp; try (with_reducible rfl)
            rotate_left 0
            try simp only [Act.put, List.setIfInBounds_toArray, List.set_cons_zero, List.set_cons_succ]
            refine wpAnyH_done (by kernel_rfl) ?_ _
            have HF := Lib.hid (And.intro htx (And.intro hrs2 hbX))
            clear htx hrs2 hbX
            go_upto_region 12 with fail
            obtain ⟨htx, hrs2, hbX⟩ := HF.out
            replace htx := txt_drew htx
            replace hrs2 := rd_drew hrs2
            replace hbX := hbX.drew
            refine wp_region_held_drew (S := fun _ => True) (by kernel_rfl) ?_ (fun hHeld => ?_)
            · exact trivial
            refine wpAnyH_take (i := 0) (oi := ⟨some 57, _, _, _, _, _⟩) (v := ?_) rfl (by kernel_rfl) (by kernel_rfl) (by kernel_rfl) (fun _ _ _ h => h) (Or.inl ⟨by rfl, ?_⟩) (by assumption) ?_
            rotate_left
            · intro w hSw; (try dsimp only at hSw); go_simp; try (with_reducible rfl)
            rotate_left 0
            try simp only [Act.put, List.setIfInBounds_toArray, List.set_cons_zero, List.set_cons_succ]
            refine wpAnyH_take (i := 1) (oi := ⟨some 58, _, _, _, _, _⟩) (v := ?_) rfl (by kernel_rfl) (by kernel_rfl) (by kernel_rfl) (fun _ _ _ h => h) (Or.inl ⟨by rfl, ?_⟩) (by assumption) ?_
            rotate_left
            · intro w hSw; (try dsimp only at hSw); go_simp; try (with_reducible rfl)
            rotate_left 0
            try simp only [Act.put, List.setIfInBounds_toArray, List.set_cons_zero, List.set_cons_succ]
            refine wpAnyH_take (i := 4) (oi := ⟨some 61, _, _, _, _, _⟩) (v := ?_) rfl (by kernel_rfl) (by kernel_rfl) (by kernel_rfl) (fun _ _ _ h => h) (Or.inl ⟨by rfl, ?_⟩) (by assumption) ?_
            rotate_left
            · intro w hSw; (try dsimp only at hSw); go_simp; try (with_reducible rfl)
            rotate_left 0
            try simp only [Act.put, List.setIfInBounds_toArray, List.set_cons_zero, List.set_cons_succ]
            refine wpAnyH_take (i := 5) (oi := ⟨some 62, _, _, _, _, _⟩) (v := ?_) rfl (by kernel_rfl) (by kernel_rfl) (by kernel_rfl) (fun _ _ _ h => h) (Or.inl ⟨by rfl, ?_⟩) (by assumption) ?_
            rotate_left
            · intro w hSw; (try dsimp only at hSw); go_simp; try (with_reducible rfl)
            rotate_left 0
            try simp only [Act.put, List.setIfInBounds_toArray, List.set_cons_zero, List.set_cons_succ]
            refine wpAnyH_ready (rs := [2]) (by kernel_rfl) (by simp) ?_
            refine (AllReadyH.cons (o := ⟨some 59, _, _, _, _, _⟩) rfl (fun K hK => ?_) AllReadyH.nil)
            (try rw [if_pos (by rfl)])
            go_simp
            try simp only [Act.put]
            try dsimp only
            refine hK.out _ _ (trivial) (fun hHeld => ?_)
            clear hK K
            try simp only [Act.put, List.setIfInBounds_toArray, List.set_cons_zero, List.set_cons_succ]
            refine wpAnyH_ready (rs := [3]) (by kernel_rfl) (by simp) ?_
            refine (AllReadyH.cons (o := ⟨some 60, _, _, _, _, _⟩) rfl (fun K hK => ?_) AllReadyH.nil)
            (try rw [if_pos (by rfl)])
            obtain ⟨g7, cap7, W7, hrun, ht7, hr7, hb7⟩ := TxtAt.more htx hbX.size hrs2 (by have := HC.out; omega)
            refine oper_append (.tmp 57) (.tmp 59) _ _ rfl _ _ rfl rfl _ _ hrun ?_
            replace hbX := hbX.trans (hb7.mono (Nat.le_refl _))
            clear hrun htx hrs2 hb7
            try simp only [Act.put, List.setIfInBounds_toArray, List.set_cons_zero, List.set_cons_succ]
            try dsimp only
            refine hK.out _ _ (trivial) (fun hHeld => ?_)
            clear hK K
            try simp only [Act.put, List.setIfInBounds_toArray, List.set_cons_zero, List.set_cons_succ]
            refine wpAnyH_take (i := 6) (oi := ⟨some 12, _, _, _, _, _⟩) (v := ?_) rfl (by kernel_rfl) (by kernel_rfl) (by kernel_rfl) (fun _ _ _ h => h) (Or.inl ⟨by rfl, ?_⟩) (by assumption) ?_
            rotate_left
            · intro w hSw; (try dsimp only at hSw); go_simp; try (with_reducible rfl)
            rotate_left 0
            try simp only [Act.put, List.setIfInBounds_toArray, List.set_cons_zero, List.set_cons_succ]
            refine wpAnyH_take (i := 7) (oi := ⟨some 4, _, _, _, _, _⟩) (v := ?_) rfl (by kernel_rfl) (by kernel_rfl) (by kernel_rfl) (fun _ _ _ h => h) (Or.inl ⟨by rfl, ?_⟩) (by assumption) ?_
            rotate_left
            · intro w hSw; (try dsimp only at hSw); go_simp; try (with_reducible rfl)
            rotate_left 0
            try simp only [Act.put, List.setIfInBounds_toArray, List.set_cons_zero, List.set_cons_succ]
            refine wpAnyH_done (by kernel_rfl) ?_ _
            have HF := Lib.hid (And.intro ht7 (And.intro hr7 hbX))
            clear ht7 hr7 hbX
            go_wp2_with fail
            go_roundw
            case rel => exact ⟨a / 2, l / 2, pth.drop 1, cutI (some ad) c4 1, n4 - 1, c4 - 1, some ⟨gs, 0, none⟩, 65, cs, _, _, acc ++ [text], by go_num, rfl, rfl, rfl, by go_num, HD.out.1, HD.out.2.1, by simpa using HF.out.1, HF.out.2.1, by rw [side_length]; omega, HD.out.2.2.1, HD.out.2.2.2.1, HD.out.2.2.2.2.1, HD.out.2.2.2.2.2, HF.out.2.2⟩
            case measure => simp [intOf]; omega
        · by_cases hal1 : a = l
          · have e1 : ((a : Int) == (l : Int)) = true := by rw [hal1]; simp
            have e2 : ((a : Int) % 2 == 0) = false := by simp; omega
            by_cases hp0 : n4 = 0
            · subst hp0
              have hR' : R = [] := by rw [hR, stepsB_step hl0 hsk, if_neg (by simp; omega)]
              have HF := Lib.hid (And.intro hbw hR')
              clear hR htx hrt hp hr htl hac hR' hbw
              go_wp2
              rw [Exit.noGoto_ret]
              go_ret
              exact ⟨_, rfl, by rw [HF.out.2]; exact TextsIs.nil _ _, HF.out.1⟩
            · have hn4 : ((n4 : Int) == 0) = false := beq_eq_false_iff_ne.2 (by omega)
              obtain ⟨ad, e, _, _⟩ := hr.at_ (show 0 < n4 by omega)
              subst e
              obtain ⟨x, hx⟩ : ∃ x, pth.getD 0 dz = x := ⟨_, rfl⟩
              have HLP : Hid (∀ W, Below w.heap.size w W → ∀ i, i < 32 → W.cell? ((ad.add 0).add i) = some (bv (x i))) := Lib.hid fun W hb => by
                obtain ⟨ad', e, _, hc⟩ := (hr.old hb).at_ (show 0 < n4 by omega)
                injection e with e
                subst e
                rw [hx] at hc
                exact hc
              have HSU : Hid (∀ W, Below w.heap.size w W → RdB W (fun b => b < W.heap.size) (.slice A11 n11 c11) text → Calls Tryd.prog 25 #[.int .i64 c, .slice A11 n11 c11] W fun e w' => e = .returned (.agg (arr 32 fun i => bv ((cutD c (sha text)) i))) ∧ Below W.heap.size W w') := Lib.hid fun W hb h => csum_any c _ text (by omega) W (HT.out.below hb) h
              have HSI : Hid (∀ W, Calls Tryd.prog 63 #[.agg (arr 32 fun i => bv (x i)), .agg (arr 32 fun i => bv ((cutD c (sha text)) i))] W fun e w' => ∃ g cap, e = .returned (.slice (some ⟨g, 0, none⟩) 65 cap) ∧ RdB w' (fun b => W.heap.size ≤ b ∧ b < w'.heap.size) (.slice (some ⟨g, 0, none⟩) 65 cap) (side c text true x) ∧ Below W.heap.size W w') := Lib.hid fun W => sidesText_any x (cutD c (sha text)) W
              have hsl : ∀ W, (Instr.sliceAt 24 (.slice (some ad) n4 c4) (some (.int .i64 1)) none none).run Tryd.prog W = .ok (.slice (cutI (some ad) c4 1) (n4 - 1) (c4 - 1)) W := fun W => run_slice_fromI (P := Tryd.prog) 24 23 Tryd.underlying24 (by kernel_rfl) (some ad) n4 c4 1 (by omega) W
              have hdp : (pth.drop 1).length = n4 - 1 := by rw [List.length_drop, hp]
              have hcons : pth = x :: pth.drop 1 := by
                rw [← hx]
                match pth, hp with
                | [], hp => simp at hp; omega
                | y :: ys, _ => rfl
              have HD := Lib.hid (And.intro hdp (And.intro (hr.drop (k := 1) (by omega)) (And.intro (show (acc ++ [text]).length + (n4 - 1) = N by simp; omega) (And.intro (show l / 2 ≤ 1099511627776 by omega) (And.intro (show a / 2 ≤ l / 2 by omega) (show R = (if (pth.drop 1).length = (stepsB (a / 2) (l / 2)).length then (acc ++ [text]) ++ textsP c (stepsB (a / 2) (l / 2)) (pth.drop 1) (side c text true x) else []) by
                rw [hR, stepsB_step hl0 hsk, hcons]
                simp only [List.length_cons, Nat.add_right_cancel_iff, List.drop_succ_cons, List.drop_zero]
                split
                · rw [List.append_assoc]
                  simp [textsP, show a % 2 = 1 by omega]
                · rfl))))))
              have HC : Hid (acc.length + 1 ≤ 1000) := Lib.hid (by have := HA.out.2.2; omega)
              have hn4n : 0 < n4 := by omega
              have hni4 : (n4 : Int) ≤ 1000 := by have := HA.out.2.2; omega
              have hn1i : (1 : Int) ≤ (n4 : Int) := by omega
              have hbX := hbw.drew
              replace htx := txt_drew htx
              replace hrt := rd_drew hrt
              clear hR hr htl hac hdp hcons hx hp hsk hbw hp0 hal hl40
              go_upto_region 6 with fail
              refine wp_region_held_drew (S := fun W' => ∀ i, i < 32 → W'.cell? ((ad.add 0).add i) = some (bv (x i))) (by kernel_rfl) ?_ (fun hHeld => ?_)
              · exact HLP.out _ hbX
              refine wpAnyH_take (i := 0) (oi := ⟨some 26, _, _, _, _, _⟩) (v := ?_) rfl (by kernel_rfl) (by kernel_rfl) (by kernel_rfl) (fun _ _ _ h => h) (Or.inl ⟨by rfl, ?_⟩) (by assumption) ?_
              rotate_left
              · intro w hSw; (try dsimp only at hSw); go_simp; try (with_reducible rfl)
              rotate_left 0
              try simp only [Act.put, List.setIfInBounds_toArray, List.set_cons_zero, List.set_cons_succ]
              refine wpAnyH_take (i := 1) (oi := ⟨some 27, _, _, _, _, _⟩) (v := ?_) rfl (by kernel_rfl) (by kernel_rfl) (by kernel_rfl) (fun _ _ _ h => h) (Or.inl ⟨by rfl, ?_⟩) (by assumption) ?_
              rotate_left
              · intro w hSw; (try dsimp only at hSw); go_simp; try (with_reducible rfl)
              rotate_left 0
              try simp only [Act.put, List.setIfInBounds_toArray, List.set_cons_zero, List.set_cons_succ]
              refine wpAnyH_take (i := 2) (oi := ⟨some 28, _, _, _, _, _⟩) (v := (.agg (arr 32 fun i => bv (x i)))) rfl (by kernel_rfl) (by kernel_rfl) (by kernel_rfl) (fun _ _ _ h => h) (yieldsIf_load_at (by rfl) 23 _ rfl (ad.add 0) rfl 32 (fun i => bv (x i)) 5 (fun _ hS => hS) Tryd.underlying23 (by kernel_rfl)) (by assumption) ?_
              try simp only [Act.put, List.setIfInBounds_toArray, List.set_cons_zero, List.set_cons_succ]
              refine wpAnyH_take (i := 3) (oi := ⟨some 29, _, _, _, _, _⟩) (v := ?_) rfl (by kernel_rfl) (by kernel_rfl) (by kernel_rfl) (fun _ _ _ h => h) (Or.inl ⟨by rfl, ?_⟩) (by assumption) ?_
              rotate_left
              · intro w hSw; (try dsimp only at hSw); go_simp; try (with_reducible rfl)
              rotate_left 0
              try simp only [Act.put, List.setIfInBounds_toArray, List.set_cons_zero, List.set_cons_succ]
              refine wpAnyH_take (i := 4) (oi := ⟨some 30, _, _, _, _, _⟩) (v := ?_) rfl (by kernel_rfl) (by kernel_rfl) (by kernel_rfl) (fun _ _ _ h => h) (Or.inl ⟨by rfl, ?_⟩) (by assumption) ?_
              rotate_left
              · intro w hSw; (try dsimp only at hSw); go_simp; try (with_reducible rfl)
              rotate_left 0
              try simp only [Act.put, List.setIfInBounds_toArray, List.set_cons_zero, List.set_cons_succ]
              refine wpAnyH_ready (rs := [5]) (by kernel_rfl) (by simp) ?_
              refine (AllReadyH.cons (o := ⟨some 31, _, _, _, _, _⟩) rfl (fun K hK => ?_) AllReadyH.nil)
              (try rw [if_pos (by rfl)])
              go_simp
              refine (HSU.out _ hbX (rdo hrt)).mono ?_
              rintro e Wa ⟨rfl, hba⟩
              replace htx := TxtAt.below htx hba
              replace hrt := rd_below hrt hba
              replace hbX := hbX.trans (hba.mono hbX.size)
              clear hba
              try dsimp only
              refine hK.out _ _ (HLP.out _ hbX) (fun hHeld => ?_)
              clear hK K
              try simp only [Act.put, List.setIfInBounds_toArray, List.set_cons_zero, List.set_cons_succ]
              refine wpAnyH_ready (rs := [6]) (by kernel_rfl) (by simp) ?_
              refine (AllReadyH.cons (o := ⟨some 32, _, _, _, _, _⟩) rfl (fun K hK => ?_) AllReadyH.nil)
              (try rw [if_pos (by rfl)])
              go_simp
              refine (HSI.out _).mono ?_
              rintro e Wb ⟨gs, cs, rfl, hrs, hbb⟩
              have hown := htx.ownlt
              replace htx := TxtAt.below htx hbb
              have hrs2 := rd_fresh hbX.size hrs hown
              replace hbX := hbX.trans (hbb.mono hbX.size)
              clear hbb hrs hown hrt
              try dsimp only
              refine hK.out _ _ (HLP.out _ hbX) (fun hHeld => ?_)
              clear hK K
              try simp only [Act.put, List.setIfInBounds_toArray, List.set_cons_zero, List.set_cons_succ]
              refine wpAnyH_take (i := 7) (oi := ⟨some 11, _, _, _, _, _⟩) (v := ?_) rfl (by kernel_rfl) (by kernel_rfl) (by kernel_rfl) (fun _ _ _ h => h) (Or.inl ⟨by rfl, ?_⟩) (by assumption) ?_
              rotate_left
              · intro w hSw; (try dsimp only at hSw); go_simp; try (with_reducible rfl)
              rotate_left 0
              try simp only [Act.put, List.setIfInBounds_toArray, List.set_cons_zero, List.set_cons_succ]
              refine wpAnyH_done (by kernel_rfl) ?_ _
              have HF := Lib.hid (And.intro htx (And.intro hrs2 hbX))
              clear htx hrs2 hbX
              go_upto_region 12 with fail
              obtain ⟨htx, hrs2, hbX⟩ := HF.out
              replace htx := txt_drew htx
              replace hrs2 := rd_drew hrs2
              replace hbX := hbX.drew
              refine wp_region_held_drew (S := fun _ => True) (by kernel_rfl) ?_ (fun hHeld => ?_)
              · exact trivial
              refine wpAnyH_take (i := 0) (oi := ⟨some 57, _, _, _, _, _⟩) (v := ?_) rfl (by kernel_rfl) (by kernel_rfl) (by kernel_rfl) (fun _ _ _ h => h) (Or.inl ⟨by rfl, ?_⟩) (by assumption) ?_
              rotate_left
              · intro w hSw; (try dsimp only at hSw); go_simp; try (with_reducible rfl)
              rotate_left 0
              try simp only [Act.put, List.setIfInBounds_toArray, List.set_cons_zero, List.set_cons_succ]
              refine wpAnyH_take (i := 1) (oi := ⟨some 58, _, _, _, _, _⟩) (v := ?_) rfl (by kernel_rfl) (by kernel_rfl) (by kernel_rfl) (fun _ _ _ h => h) (Or.inl ⟨by rfl, ?_⟩) (by assumption) ?_
              rotate_left
              · intro w hSw; (try dsimp only at hSw); go_simp; try (with_reducible rfl)
              rotate_left 0
              try simp only [Act.put, List.setIfInBounds_toArray, List.set_cons_zero, List.set_cons_succ]
              refine wpAnyH_take (i := 4) (oi := ⟨some 61, _, _, _, _, _⟩) (v := ?_) rfl (by kernel_rfl) (by kernel_rfl) (by kernel_rfl) (fun _ _ _ h => h) (Or.inl ⟨by rfl, ?_⟩) (by assumption) ?_
              rotate_left
              · intro w hSw; (try dsimp only at hSw); go_simp; try (with_reducible rfl)
              rotate_left 0
              try simp only [Act.put, List.setIfInBounds_toArray, List.set_cons_zero, List.set_cons_succ]
              refine wpAnyH_take (i := 5) (oi := ⟨some 62, _, _, _, _, _⟩) (v := ?_) rfl (by kernel_rfl) (by kernel_rfl) (by kernel_rfl) (fun _ _ _ h => h) (Or.inl ⟨by rfl, ?_⟩) (by assumption) ?_
              rotate_left
              · intro w hSw; (try dsimp only at hSw); go_simp; try (with_reducible rfl)
              rotate_left 0
              try simp only [Act.put, List.setIfInBounds_toArray, List.set_cons_zero, List.set_cons_succ]
              refine wpAnyH_ready (rs := [2]) (by kernel_rfl) (by simp) ?_
              refine (AllReadyH.cons (o := ⟨some 59, _, _, _, _, _⟩) rfl (fun K hK => ?_) AllReadyH.nil)
              (try rw [if_pos (by rfl)])
              go_simp
              try simp only [Act.put]
              try dsimp only
              refine hK.out _ _ (trivial) (fun hHeld => ?_)
              clear hK K
              try simp only [Act.put, List.setIfInBounds_toArray, List.set_cons_zero, List.set_cons_succ]
              refine wpAnyH_ready (rs := [3]) (by kernel_rfl) (by simp) ?_
              refine (AllReadyH.cons (o := ⟨some 60, _, _, _, _, _⟩) rfl (fun K hK => ?_) AllReadyH.nil)
              (try rw [if_pos (by rfl)])
              obtain ⟨g7, cap7, W7, hrun, ht7, hr7, hb7⟩ := TxtAt.more htx hbX.size hrs2 (by have := HC.out; omega)
              refine oper_append (.tmp 57) (.tmp 59) _ _ rfl _ _ rfl rfl _ _ hrun ?_
              replace hbX := hbX.trans (hb7.mono (Nat.le_refl _))
              clear hrun htx hrs2 hb7
              try simp only [Act.put, List.setIfInBounds_toArray, List.set_cons_zero, List.set_cons_succ]
              try dsimp only
              refine hK.out _ _ (trivial) (fun hHeld => ?_)
              clear hK K
              try simp only [Act.put, List.setIfInBounds_toArray, List.set_cons_zero, List.set_cons_succ]
              refine wpAnyH_take (i := 6) (oi := ⟨some 12, _, _, _, _, _⟩) (v := ?_) rfl (by kernel_rfl) (by kernel_rfl) (by kernel_rfl) (fun _ _ _ h => h) (Or.inl ⟨by rfl, ?_⟩) (by assumption) ?_
              rotate_left
              · intro w hSw; (try dsimp only at hSw); go_simp; try (with_reducible rfl)
              rotate_left 0
              try simp only [Act.put, List.setIfInBounds_toArray, List.set_cons_zero, List.set_cons_succ]
              refine wpAnyH_take (i := 7) (oi := ⟨some 4, _, _, _, _, _⟩) (v := ?_) rfl (by kernel_rfl) (by kernel_rfl) (by kernel_rfl) (fun _ _ _ h => h) (Or.inl ⟨by rfl, ?_⟩) (by assumption) ?_
              rotate_left
              · intro w hSw; (try dsimp only at hSw); go_simp; try (with_reducible rfl)
              rotate_left 0
              try simp only [Act.put, List.setIfInBounds_toArray, List.set_cons_zero, List.set_cons_succ]
              refine wpAnyH_done (by kernel_rfl) ?_ _
              have HF := Lib.hid (And.intro ht7 (And.intro hr7 hbX))
              clear ht7 hr7 hbX
              go_wp2_with fail
              go_roundw
              case rel => exact ⟨a / 2, l / 2, pth.drop 1, cutI (some ad) c4 1, n4 - 1, c4 - 1, some ⟨gs, 0, none⟩, 65, cs, _, _, acc ++ [text], by go_num, rfl, rfl, rfl, by go_num, HD.out.1, HD.out.2.1, by simpa using HF.out.1, HF.out.2.1, by rw [side_length]; omega, HD.out.2.2.1, HD.out.2.2.2.1, HD.out.2.2.2.2.1, HD.out.2.2.2.2.2, HF.out.2.2⟩
              case measure => simp [intOf]; omega
          · have e1 : ((a : Int) == (l : Int)) = false := beq_eq_false_iff_ne.2 (by omega)
            have e2 : ((a : Int) % 2 == 0) = false := by simp; omega
            by_cases hp0 : n4 = 0
            · subst hp0
              have hR' : R = [] := by rw [hR, stepsB_step hl0 hsk, if_neg (by simp; omega)]
              have HF := Lib.hid (And.intro hbw hR')
              clear hR htx hrt hp hr htl hac hR' hbw
              go_wp2
              rw [Exit.noGoto_ret]
              go_ret
              exact ⟨_, rfl, by rw [HF.out.2]; exact TextsIs.nil _ _, HF.out.1⟩
            · have hn4 : ((n4 : Int) == 0) = false := beq_eq_false_iff_ne.2 (by omega)
              obtain ⟨ad, e, _, _⟩ := hr.at_ (show 0 < n4 by omega)
              subst e
              obtain ⟨x, hx⟩ : ∃ x, pth.getD 0 dz = x := ⟨_, rfl⟩
              have HLP : Hid (∀ W, Below w.heap.size w W → ∀ i, i < 32 → W.cell? ((ad.add 0).add i) = some (bv (x i))) := Lib.hid fun W hb => by
                obtain ⟨ad', e, _, hc⟩ := (hr.old hb).at_ (show 0 < n4 by omega)
                injection e with e
                subst e
                rw [hx] at hc
                exact hc
              have HSU : Hid (∀ W, Below w.heap.size w W → RdB W (fun b => b < W.heap.size) (.slice A11 n11 c11) text → Calls Tryd.prog 25 #[.int .i64 c, .slice A11 n11 c11] W fun e w' => e = .returned (.agg (arr 32 fun i => bv ((cutD c (sha text)) i))) ∧ Below W.heap.size W w') := Lib.hid fun W hb h => csum_any c _ text (by omega) W (HT.out.below hb) h
              have HSI : Hid (∀ W, Calls Tryd.prog 63 #[.agg (arr 32 fun i => bv (x i)), .agg (arr 32 fun i => bv ((cutD c (sha text)) i))] W fun e w' => ∃ g cap, e = .returned (.slice (some ⟨g, 0, none⟩) 65 cap) ∧ RdB w' (fun b => W.heap.size ≤ b ∧ b < w'.heap.size) (.slice (some ⟨g, 0, none⟩) 65 cap) (side c text true x) ∧ Below W.heap.size W w') := Lib.hid fun W => sidesText_any x (cutD c (sha text)) W
              have hsl : ∀ W, (Instr.sliceAt 24 (.slice (some ad) n4 c4) (some (.int .i64 1)) none none).run Tryd.prog W = .ok (.slice (cutI (some ad) c4 1) (n4 - 1) (c4 - 1)) W := fun W => run_slice_fromI (P := Tryd.prog) 24 23 Tryd.underlying24 (by kernel_rfl) (some ad) n4 c4 1 (by omega) W
              have hdp : (pth.drop 1).length = n4 - 1 := by rw [List.length_drop, hp]
              have hcons : pth = x :: pth.drop 1 := by
                rw [← hx]
                match pth, hp with
                | [], hp => simp at hp; omega
                | y :: ys, _ => rfl
              have HD := Lib.hid (And.intro hdp (And.intro (hr.drop (k := 1) (by omega)) (And.intro (show (acc ++ [text]).length + (n4 - 1) = N by simp; omega) (And.intro (show l / 2 ≤ 1099511627776 by omega) (And.intro (show a / 2 ≤ l / 2 by omega) (show R = (if (pth.drop 1).length = (stepsB (a / 2) (l / 2)).length then (acc ++ [text]) ++ textsP c (stepsB (a / 2) (l / 2)) (pth.drop 1) (side c text true x) else []) by
                rw [hR, stepsB_step hl0 hsk, hcons]
                simp only [List.length_cons, Nat.add_right_cancel_iff, List.drop_succ_cons, List.drop_zero]
                split
                · rw [List.append_assoc]
                  simp [textsP, show a % 2 = 1 by omega]
                · rfl))))))
              have HC : Hid (acc.length + 1 ≤ 1000) := Lib.hid (by have := HA.out.2.2; omega)
              have hn4n : 0 < n4 := by omega
              have hni4 : (n4 : Int) ≤ 1000 := by have := HA.out.2.2; omega
              have hn1i : (1 : Int) ≤ (n4 : Int) := by omega
              have hbX := hbw.drew
              replace htx := txt_drew htx
              replace hrt := rd_drew hrt
              clear hR hr htl hac hdp hcons hx hp hsk hbw hp0 hal hl40
              go_upto_region 6 with fail
              refine wp_region_held_drew (S := fun W' => ∀ i, i < 32 → W'.cell? ((ad.add 0).add i) = some (bv (x i))) (by kernel_rfl) ?_ (fun hHeld => ?_)
              · exact HLP.out _ hbX
              refine wpAnyH_take (i := 0) (oi := ⟨some 26, _, _, _, _, _⟩) (v := ?_) rfl (by kernel_rfl) (by kernel_rfl) (by kernel_rfl) (fun _ _ _ h => h) (Or.inl ⟨by rfl, ?_⟩) (by assumption) ?_
              rotate_left
              · intro w hSw; (try dsimp only at hSw); go_simp; try (with_reducible rfl)
              rotate_left 0
              try simp only [Act.put, List.setIfInBounds_toArray, List.set_cons_zero, List.set_cons_succ]
              refine wpAnyH_take (i := 1) (oi := ⟨some 27, _, _, _, _, _⟩) (v := ?_) rfl (by kernel_rfl) (by kernel_rfl) (by kernel_rfl) (fun _ _ _ h => h) (Or.inl ⟨by rfl, ?_⟩) (by assumption) ?_
              rotate_left
              · intro w hSw; (try dsimp only at hSw); go_simp; try (with_reducible rfl)
              rotate_left 0
              try simp only [Act.put, List.setIfInBounds_toArray, List.set_cons_zero, List.set_cons_succ]
              refine wpAnyH_take (i := 2) (oi := ⟨some 28, _, _, _, _, _⟩) (v := (.agg (arr 32 fun i => bv (x i)))) rfl (by kernel_rfl) (by kernel_rfl) (by kernel_rfl) (fun _ _ _ h => h) (yieldsIf_load_at (by rfl) 23 _ rfl (ad.add 0) rfl 32 (fun i => bv (x i)) 5 (fun _ hS => hS) Tryd.underlying23 (by kernel_rfl)) (by assumption) ?_
              try simp only [Act.put, List.setIfInBounds_toArray, List.set_cons_zero, List.set_cons_succ]
              refine wpAnyH_take (i := 3) (oi := ⟨some 29, _, _, _, _, _⟩) (v := ?_) rfl (by kernel_rfl) (by kernel_rfl) (by kernel_rfl) (fun _ _ _ h => h) (Or.inl ⟨by rfl, ?_⟩) (by assumption) ?_
              rotate_left
              · intro w hSw; (try dsimp only at hSw); go_simp; try (with_reducible rfl)
              rotate_left 0
              try simp only [Act.put, List.setIfInBounds_toArray, List.set_cons_zero, List.set_cons_succ]
              refine wpAnyH_take (i := 4) (oi := ⟨some 30, _, _, _, _, _⟩) (v := ?_) rfl (by kernel_rfl) (by kernel_rfl) (by kernel_rfl) (fun _ _ _ h => h) (Or.inl ⟨by rfl, ?_⟩) (by assumption) ?_
              rotate_left
              · intro w hSw; (try dsimp only at hSw); go_simp; try (with_reducible rfl)
              rotate_left 0
              try simp only [Act.put, List.setIfInBounds_toArray, List.set_cons_zero, List.set_cons_succ]
              refine wpAnyH_ready (rs := [5]) (by kernel_rfl) (by simp) ?_
              refine (AllReadyH.cons (o := ⟨some 31, _, _, _, _, _⟩) rfl (fun K hK => ?_) AllReadyH.nil)
              (try rw [if_pos (by rfl)])
              go_simp
              refine (HSU.out _ hbX (rdo hrt)).mono ?_
              rintro e Wa ⟨rfl, hba⟩
              replace htx := TxtAt.below htx hba
              replace hrt := rd_below hrt hba
              replace hbX := hbX.trans (hba.mono hbX.size)
              clear hba
              try dsimp only
              refine hK.out _ _ (HLP.out _ hbX) (fun hHeld => ?_)
              clear hK K
              try simp only [Act.put, List.setIfInBounds_toArray, List.set_cons_zero, List.set_cons_succ]
              refine wpAnyH_ready (rs := [6]) (by kernel_rfl) (by simp) ?_
              refine (AllReadyH.cons (o := ⟨some 32, _, _, _, _, _⟩) rfl (fun K hK => ?_) AllReadyH.nil)
              (try rw [if_pos (by rfl)])
              go_simp
              refine (HSI.out _).mono ?_
              rintro e Wb ⟨gs, cs, rfl, hrs, hbb⟩
              have hown := htx.ownlt
              replace htx := TxtAt.below htx hbb
              have hrs2 := rd_fresh hbX.size hrs hown
              replace hbX := hbX.trans (hbb.mono hbX.size)
              clear hbb hrs hown hrt
              try dsimp only
              refine hK.out _ _ (HLP.out _ hbX) (fun hHeld => ?_)
              clear hK K
              try simp only [Act.put, List.setIfInBounds_toArray, List.set_cons_zero, List.set_cons_succ]
              refine wpAnyH_take (i := 7) (oi := ⟨some 11, _, _, _, _, _⟩) (v := ?_) rfl (by kernel_rfl) (by kernel_rfl) (by kernel_rfl) (fun _ _ _ h => h) (Or.inl ⟨by rfl, ?_⟩) (by assumption) ?_
              rotate_left
              · intro w hSw; (try dsimp only at hSw); go_simp; try (with_reducible rfl)
              rotate_left 0
              try simp only [Act.put, List.setIfInBounds_toArray, List.set_cons_zero, List.set_cons_succ]
              refine wpAnyH_done (by kernel_rfl) ?_ _
              have HF := Lib.hid (And.intro htx (And.intro hrs2 hbX))
              clear htx hrs2 hbX
              go_upto_region 12 with fail
              obtain ⟨htx, hrs2, hbX⟩ := HF.out
              replace htx := txt_drew htx
              replace hrs2 := rd_drew hrs2
              replace hbX := hbX.drew
              refine wp_region_held_drew (S := fun _ => True) (by kernel_rfl) ?_ (fun hHeld => ?_)
              · exact trivial
              refine wpAnyH_take (i := 0) (oi := ⟨some 57, _, _, _, _, _⟩) (v := ?_) rfl (by kernel_rfl) (by kernel_rfl) (by kernel_rfl) (fun _ _ _ h => h) (Or.inl ⟨by rfl, ?_⟩) (by assumption) ?_
              rotate_left
              · intro w hSw; (try dsimp only at hSw); go_simp; try (with_reducible rfl)
              rotate_left 0
              try simp only [Act.put, List.setIfInBounds_toArray, List.set_cons_zero, List.set_cons_succ]
              refine wpAnyH_take (i := 1) (oi := ⟨some 58, _, _, _, _, _⟩) (v := ?_) rfl (by kernel_rfl) (by kernel_rfl) (by kernel_rfl) (fun _ _ _ h => h) (Or.inl ⟨by rfl, ?_⟩) (by assumption) ?_
              rotate_left
              · intro w hSw; (try dsimp only at hSw); go_simp; try (with_reducible rfl)
              rotate_left 0
              try simp only [Act.put, List.setIfInBounds_toArray, List.set_cons_zero, List.set_cons_succ]
              refine wpAnyH_take (i := 4) (oi := ⟨some 61, _, _, _, _, _⟩) (v := ?_) rfl (by kernel_rfl) (by kernel_rfl) (by kernel_rfl) (fun _ _ _ h => h) (Or.inl ⟨by rfl, ?_⟩) (by assumption) ?_
              rotate_left
              · intro w hSw; (try dsimp only at hSw); go_simp; try (with_reducible rfl)
              rotate_left 0
              try simp only [Act.put, List.setIfInBounds_toArray, List.set_cons_zero, List.set_cons_succ]
              refine wpAnyH_take (i := 5) (oi := ⟨some 62, _, _, _, _, _⟩) (v := ?_) rfl (by kernel_rfl) (by kernel_rfl) (by kernel_rfl) (fun _ _ _ h => h) (Or.inl ⟨by rfl, ?_⟩) (by assumption) ?_
              rotate_left
              · intro w hSw; (try dsimp only at hSw); go_simp; try (with_reducible rfl)
              rotate_left 0
              try simp only [Act.put, List.setIfInBounds_toArray, List.set_cons_zero, List.set_cons_succ]
              refine wpAnyH_ready (rs := [2]) (by kernel_rfl) (by simp) ?_
              refine (AllReadyH.cons (o := ⟨some 59, _, _, _, _, _⟩) rfl (fun K hK => ?_) AllReadyH.nil)
              (try rw [if_pos (by rfl)])
              go_simp
              try simp only [Act.put]
              try dsimp only
              refine hK.out _ _ (trivial) (fun hHeld => ?_)
              clear hK K
              try simp only [Act.put, List.setIfInBounds_toArray, List.set_cons_zero, List.set_cons_succ]
              refine wpAnyH_ready (rs := [3]) (by kernel_rfl) (by simp) ?_
              refine (AllReadyH.cons (o := ⟨some 60, _, _, _, _, _⟩) rfl (fun K hK => ?_) AllReadyH.nil)
              (try rw [if_pos (by rfl)])
              obtain ⟨g7, cap7, W7, hrun, ht7, hr7, hb7⟩ := TxtAt.more htx hbX.size hrs2 (by have := HC.out; omega)
              refine oper_append (.tmp 57) (.tmp 59) _ _ rfl _ _ rfl rfl _ _ hrun ?_
              replace hbX := hbX.trans (hb7.mono (Nat.le_refl _))
              clear hrun htx hrs2 hb7
              try simp only [Act.put, List.setIfInBounds_toArray, List.set_cons_zero, List.set_cons_succ]
              try dsimp only
              refine hK.out _ _ (trivial) (fun hHeld => ?_)
              clear hK K
              try simp only [Act.put, List.setIfInBounds_toArray, List.set_cons_zero, List.set_cons_succ]
              refine wpAnyH_take (i := 6) (oi := ⟨some 12, _, _, _, _, _⟩) (v := ?_) rfl (by kernel_rfl) (by kernel_rfl) (by kernel_rfl) (fun _ _ _ h => h) (Or.inl ⟨by rfl, ?_⟩) (by assumption) ?_
              rotate_left
              · intro w hSw; (try dsimp only at hSw); go_simp; try (with_reducible rfl)
              rotate_left 0
              try simp only [Act.put, List.setIfInBounds_toArray, List.set_cons_zero, List.set_cons_succ]
              refine wpAnyH_take (i := 7) (oi := ⟨some 4, _, _, _, _, _⟩) (v := ?_) rfl (by kernel_rfl) (by kernel_rfl) (by kernel_rfl) (fun _ _ _ h => h) (Or.inl ⟨by rfl, ?_⟩) (by assumption) ?_
              rotate_left
              · intro w hSw; (try dsimp only at hSw); go_simp; try (with_reducible rfl)
              rotate_left 0
              try simp only [Act.put, List.setIfInBounds_toArray, List.set_cons_zero, List.set_cons_succ]
              refine wpAnyH_done (by kernel_rfl) ?_ _
              have HF := Lib.hid (And.intro ht7 (And.intro hr7 hbX))
              clear ht7 hr7 hbX
              go_wp2_with fail
              go_roundw
              case rel => exact ⟨a / 2, l / 2, pth.drop 1, cutI (some ad) c4 1, n4 - 1, c4 - 1, some ⟨gs, 0, none⟩, 65, cs, _, _, acc ++ [text], by go_num, rfl, rfl, rfl, by go_num, HD.out.1, HD.out.2.1, by simpa using HF.out.1, HF.out.2.1, by rw [side_length]; omega, HD.out.2.2.1, HD.out.2.2.2.1, HD.out.2.2.2.2.1, HD.out.2.2.2.2.2, HF.out.2.2⟩
              case measure => simp [intOf]; omega
end Go.Proofs.YtlnapnbccojohaaDoor
