/-
  Layer 21: the law PostOrder. In whatever memory. No condition.
-/
import Derived.Test.YtplcanoihojnpaaPstCar
namespace Go.Proofs.Ytplcanoihojnpaa
open Go Go.RowKit PackMath

/-- Texts, a cell each. -/
def strC (l : List (List UInt8)) : List (List Value) := l.map fun b => [.string ⟨b.toArray⟩]
theorem elStr : ElC Try.prog 9 65 1 16 := ⟨Try.underlying65, by kernel_rfl, by omega, by omega⟩
theorem elsStr (l : List (List UInt8)) : ElsC 1 (strC l) := fun x hx => by
  obtain ⟨b, _, rfl⟩ := List.mem_map.1 hx
  exact ⟨rfl, fun u hu => by rw [List.mem_singleton] at hu; rw [hu]; rfl⟩
theorem strC_length (l : List (List UInt8)) : (strC l).length = l.length := by simp [strC]
theorem strC_append (a b : List (List UInt8)) : strC (a ++ b) = strC a ++ strC b := by simp [strC]
theorem PostAt.grown {W W' : World} {Y : Nat → Prop} {g : Nat} {l : List MailS} {v : Value} (h : PostAt W Y g l) (hg : W.grownBy W' v.ownBlock) (hv : ∀ b, v.ownBlock = some b → ¬ Y b) : PostAt W' Y g l :=
  h.turn (S := fun i => v.ownBlock = some i) ((Turn.refl _ W).grown hg fun _k hk _ => hk) fun i hi he => hv i he hi
/-- A text appended onto a row of texts of the call's own. -/
theorem app_text {B : Nat} {w : World} (hB : B ≤ w.heap.size) {v : Value} {n : Nat} {l : List (List UInt8)} (hown : w.ownsRow B 9 1 v n (strC l).flatten) (b : List UInt8) (hn : n < 1000) :
    ∃ v' w', (Builtin.append_ #[65, 65] 65 #[v, .slice (some ⟨w.heap.size, 0, none⟩) 1 1]).run Try.prog (w.alloc (.cells #[.string ⟨b.toArray⟩] 9)) = .ok v' w' ∧ w'.ownsRow B 9 1 v' (n + 1) (strC (l ++ [b])).flatten ∧ w.grownBy w' v.ownBlock ∧ (v'.ownBlock = v.ownBlock ∨ ∃ g, v'.ownBlock = some g ∧ w.heap.size ≤ g) := by
  have hb0 : Below w.heap.size w (w.alloc (.cells #[.string ⟨b.toArray⟩] 9)) := (Below.refl _ _).alloc (Nat.le_refl _) _
  have hr : RdC 1 (w.alloc (.cells #[.string ⟨b.toArray⟩] 9)) (fun i => i = w.heap.size) (.slice (some ⟨w.heap.size, 0, none⟩) 1 1) (strC [b]) := rdC_one (ty := 9) (x := [.string ⟨b.toArray⟩]) (Blk.newAt _ _ rfl rfl) (elsStr [b])
  obtain ⟨v', w', hrun, h1, h2, h3⟩ := app_own elStr (Nat.le_trans hB hb0.size) (ownsRow_kept hown hb0) hr (by omega)
  rw [← strC_append] at h1
  exact ⟨v', w', hrun, h1, (World.grownBy_alloc w _ _).trans h2, h3.imp id fun h => ⟨_, h, by simp⟩⟩
theorem neq_sameS (b : List UInt8) (w : World) : (binOp .neq 9 (.string ⟨b.toArray⟩) (.string ⟨b.toArray⟩)).run Try.prog w = .ok (.bool false) w := by
  show (Op.stringOp .neq ⟨b.toArray⟩ ⟨b.toArray⟩).run Try.prog w = _
  simp [Op.stringOp]
/-- Between two texts that are sent, or that come: the post has ls, the texts are ws. -/
def OrdR (w : World) (g : Nat) (ws ls : List (List UInt8)) (v : Value) (wr : World) : Prop :=
  ∃ Y l, PostAt wr Y g l ∧ l.map (·.bs) = ls ∧ (∀ i, Y i → w.heap.size ≤ i) ∧ wr.ownsRow w.heap.size 9 1 v ws.length (strC ws).flatten ∧ (∀ b, v.ownBlock = some b → ¬ Y b) ∧ Below w.heap.size w wr
theorem head_of {ws : List (List UInt8)} {j : Nat} {l : List MailS} {b : List UInt8} (hl : l.map (·.bs) = ws.drop j) (hb : ws[j]? = some b) : ∃ m0 l', l = m0 :: l' ∧ m0.bs = b ∧ l'.map (·.bs) = ws.drop (j + 1) := by
  have hj := (List.getElem?_eq_some_iff.1 hb).1
  rw [List.drop_eq_getElem_cons hj] at hl
  cases l with
  | nil =>
    simp at hl
    omega
  | cons m0 l' =>
    rw [List.map_cons, List.cons.injEq] at hl
    rw [List.getElem?_eq_getElem hj, Option.some.injEq] at hb
    exact ⟨m0, l', rfl, hl.1.trans hb, hl.2⟩
theorem take_head (m0 : MailS) (l' : List MailS) : atM (m0 :: l') 0 = m0 ∧ codeM (m0 :: l') 0 = 0 ∧ takeM (m0 :: l') 0 = l' := by
  have h : isAt (m0 :: l') 0 := ⟨by omega, by rw [List.length_cons]; omega⟩
  unfold atM codeM takeM
  rw [if_pos h, if_pos h, if_pos h]
  exact ⟨rfl, rfl, rfl⟩
theorem take_none : atM [] 0 = zeroM ∧ codeM [] 0 = 4 ∧ takeM [] 0 = [] := ⟨rfl, rfl, rfl⟩
theorem str_here {B n c j : Nat} {w : World} {A : Option Addr} {ws : List (List UInt8)} {b : List UInt8} (h : w.ownsRow B 9 1 (.slice A n c) n (strC ws).flatten) (hb : ws[j]? = some b) : ∃ ad, A = some ad ∧ w.cell? (ad.add j) = some (.string ⟨b.toArray⟩) := by
  have hg := rowL_get (k := 1) (elsStr ws).len (j := j) (x := [.string ⟨b.toArray⟩]) (by unfold strC; rw [List.getElem?_map, hb]; rfl) (i := 0) (by omega)
  rw [Nat.one_mul, Nat.add_zero] at hg
  rcases h.2 with ⟨hv, h0⟩ | ⟨g, cap, cur, hv, _⟩
  · have := h.1
    rw [h0, Nat.zero_mul] at this
    rw [List.eq_nil_of_length_eq_zero this] at hg
    simp at hg
  · obtain ⟨rfl, -, rfl⟩ := Value.slice.inj hv
    exact ⟨_, rfl, h.cells (g := g) rfl j _ hg⟩
set_option maxRecDepth 100000 in
set_option maxHeartbeats 16000000 in
theorem order_law (A : Option Addr) (c : Nat) (ps : List (List UInt8)) (twice : Int) (w : World) (hm : ps.length ≤ 140737488351232) (hr : RdP w (fun b => b < w.heap.size) A ps) :
    Calls Try.prog 5 #[.slice A ps.length c, .int .i64 twice] w fun e w' => e = .returned (.bool true) ∧ Below w.heap.size w w' := by
  obtain ⟨n, hn⟩ : ∃ n, ps.length = n := ⟨_, rfl⟩
  rw [hn] at hm ⊢
  have HN := Lib.hid hn
  have HR := Lib.hid hr
  clear hr hn
  by_cases h20 : 20 < n
  · have e1 : decide ((n : Int) > 20) = true := decide_eq_true (by omega)
    go_enter Try.func5, Try.ntmps5
    go_wp2_with (go_at_call 6; refine (carries_any _).mono ?_; rintro e W1 ⟨rfl, hb1⟩)
    go_ret
    exact ⟨rfl, hb1⟩
  · have e1 : decide ((n : Int) > 20) = false := decide_eq_false (by omega)
    have HN20 : Hid (n ≤ 20) := Lib.hid (by omega)
    go_enter Try.func5, Try.ntmps5
    go_upto_region 6 with (go_at_call 6; refine (carries_any _).mono ?_; rintro e W1 ⟨rfl, hb1⟩)
    obtain ⟨g, hg⟩ : ∃ g, W1.heap.size = g := ⟨_, rfl⟩
    have hp0 := post_new W1
    obtain ⟨W2, hW2⟩ : ∃ W2, W1.alloc (.cells #[.slice none 0 0] 26) = W2 := ⟨_, rfl⟩
    have hb2 : Below W1.heap.size W1 W2 := by rw [← hW2]; exact (Below.refl _ _).alloc (Nat.le_refl _) _
    rw [hW2, hg] at hp0
    rw [hW2, hg]
    have HSTART : Hid (OrdR w g [] [] (.slice none 0 0) W2) := Lib.hid ⟨_, [], hp0, rfl, fun i hi => by rw [hi, ← hg]; exact hb1.size, World.ownsRow_nil _ _ _ _, fun b hb => by simp [Value.ownBlock] at hb, hb1.trans (hb2.mono hb1.size)⟩
    clear hp0 hW2 hb2 hg hb1
    go_wp2_with fail
    go_loopw [6, 23] (fun s6 i wr => ∃ k : Nat, k ≤ n ∧ i = .int .i64 (k : Int) ∧ OrdR w g (ps.take k) (ps.take k) s6 wr) (fun _ i _ => n - (intOf i).toNat)
    case atStart => exact ⟨0, Nat.zero_le _, rfl, HSTART.out⟩
    case round =>
      clear HSTART
      obtain ⟨k, hk, rfl, Y, l, hp, hl, hY, hown, hvY, hbw⟩ := hrel
      by_cases hkn : k < n
      · have hki : (k : Int) < (n : Int) := by omega
        obtain ⟨ad, v, rfl, hok, hcell, hrd⟩ := HR.out k (by rw [HN.out]; exact hkn)
        have hcw := (hbw.cell (p := ad.add k) (by rw [block_add]; exact hok)).trans hcell
        obtain ⟨d, hd⟩ : ∃ d, ps.getD k [] = d := ⟨_, rfl⟩
        have htk : ps.take (k + 1) = ps.take k ++ [d] := by
          have hl : k < ps.length := by rw [HN.out]; exact hkn
          rw [List.take_succ_eq_append_getElem hl, ← hd, List.getD_eq_getElem?_getD, List.getElem?_eq_getElem hl]
          rfl
        rw [hd] at hrd
        obtain ⟨Ae, ce, rfl, _⟩ := id hrd
        obtain ⟨m, hdm⟩ : ∃ m, d.length = m := ⟨_, rfl⟩
        rw [hdm] at hrd hcw
        have HRD := Lib.hid hrd
        have HTK := Lib.hid htk
        clear hcell hrd hd hdm htk
        by_cases h300 : 300 < m
        · have e4 : decide ((m : Int) > 300) = true := decide_eq_true (by omega)
          clear hp hl hY hown hvY
          go_wp2
          go_ret
          exact ⟨rfl, hbw⟩
        · have e4 : decide ((m : Int) > 300) = false := decide_eq_false (by omega)
          have hlk : l.length = k := by
            have := congrArg List.length hl
            rw [List.length_map, List.length_take, HN.out] at this
            omega
          have hwk : (ps.take k).length = k := by rw [List.length_take, HN.out]; omega
          have HDR : Hid (∀ W, Below w.heap.size w W → RdB W (fun b => b < W.heap.size) (.slice Ae m ce) d) := Lib.hid fun W hb => (HRD.out.kept fun a x ha h => (hb.cell (p := a) ha).trans h).mono fun b h => Nat.lt_of_lt_of_le h hb.size
          have hpu := postPut_any (m := ⟨false, (k : Int), false, 0, d⟩) hp (HDR.out _ hbw)
          rw [show putE l = 0 from if_neg (by have := HN20.out; omega), show putM l ⟨false, (k : Int), false, 0, d⟩ = l ++ [⟨false, (k : Int), false, 0, d⟩] from if_neg (by have := HN20.out; omega)] at hpu
          have HPU := Lib.hid hpu
          have hgY := And.intro (hY g hp.mem) hp.mem
          rw [hwk] at hown
          have HO := Lib.hid (And.intro hown (And.intro hvY (And.intro hY (And.intro hl (And.intro hbw (And.intro hgY hwk))))))
          clear hp hl hY hown hvY hbw hpu hgY hwk hlk
          go_upto_region 14 with (go_at_call 11; refine HPU.out.mono ?_; rintro e W3 ⟨rfl, Y3, hp3, ht3, hy3⟩)
          have hb3 := below_turn HO.out.2.2.2.2.1 (Nat.le_refl _) ht3 (fun i hi => by rw [hi]; exact HO.out.2.2.2.2.2.1.1)
          have hcv := str_rd (HDR.out W3 hb3)
          have hgv : ∀ b, u6.ownBlock = some b → ¬ b = g := fun b hb e => HO.out.2.1 b hb (by rw [e]; exact HO.out.2.2.2.2.2.1.2)
          obtain ⟨v', W4, hrun, hown4, hgr, hat⟩ := app_text hb3.size (ht3.own HO.out.1 hgv) d (by have := HN20.out; omega)
          have hvY3 : ∀ b, u6.ownBlock = some b → ¬ Y3 b := fun b hb hy => by
            rcases hy3 b hy with h | h
            · exact HO.out.2.1 b hb h
            · have := (HO.out.1.lt b hb).2
              omega
          have HEND : Hid (OrdR w g (ps.take (k + 1)) (ps.take (k + 1)) v' W4) := Lib.hid (by
            rw [HTK.out]
            refine ⟨Y3, _, hp3.grown hgr hvY3, by rw [List.map_append, HO.out.2.2.2.1]; rfl, fun i hi => ?_, ?_, fun b hb hy => ?_, hb3.grown hgr hb3.size fun b hb => (HO.out.1.lt b hb).1⟩
            · rcases hy3 i hi with h | h
              · exact HO.out.2.2.1 i h
              · exact Nat.le_trans HO.out.2.2.2.2.1.size h
            · rw [List.length_append, HO.out.2.2.2.2.2.2]
              exact hown4
            · rcases hat with h | ⟨b', h, hb'⟩
              · exact hvY3 b (h ▸ hb) hy
              · rw [hb] at h
                have := Option.some.inj h
                have := hp3.lt b hy
                omega)
          have HRUN := Lib.hid hrun
          clear hp3 ht3 hy3 hb3 hgv hrun hown4 hgr hat hvY3
          go_wp2_with (at_builtin; refine wpList_append_run rfl (.tmp 37) (.tmp 40) _ _ rfl _ _ rfl rfl _ _ HRUN.out ?_)
          go_roundw
          case rel => exact ⟨k + 1, by omega, by go_num, HEND.out⟩
          case measure =>
            simp [intOf]
            omega
      · obtain rfl : k = n := by omega
        have htn : ps.take k = ps := by rw [← HN.out]; exact List.take_length
        rw [htn] at hl hown
        have HX := Lib.hid (And.intro hp (And.intro hl (And.intro hY (And.intro hown (And.intro hvY hbw)))))
        have hlk : l.length = k := by
          have := congrArg List.length hl
          rw [List.length_map, HN.out] at this
          exact this
        have HLK := Lib.hid hlk
        have htw := postTwice_any twice hp
        clear hp hl hY hown hvY hbw hlk htn
        by_cases hin : isAt l twice
        · obtain ⟨t, rfl⟩ : ∃ t : Nat, twice = (t : Int) := ⟨twice.toNat, by have := hin.1; omega⟩
          have htl : t < k := by have := hin.2; rw [HLK.out] at this; omega
          have hti : (t : Int) < (k : Int) := by omega
          have ht0 : (0 : Int) ≤ (t : Int) := by omega
          have e5 : decide ((t : Int) ≥ 0) = true := decide_eq_true ht0
          obtain ⟨ad, v, rfl, hok, hcell, hrd⟩ := HR.out t (by rw [HN.out]; exact htl)
          obtain ⟨d, hd⟩ : ∃ d, ps.getD t [] = d := ⟨_, rfl⟩
          rw [hd] at hrd
          obtain ⟨Ae, ce, rfl, _⟩ := id hrd
          have hm : (atM l (t : Int)).bs = d := by
            unfold atM
            rw [if_pos hin, Int.toNat_natCast, ← hd, ← HX.out.2.1, List.getD_eq_getElem?_getD, List.getD_eq_getElem?_getD, List.getElem?_map]
            cases l[t]? <;> rfl
          rw [show twiceE l (t : Int) = 0 by unfold twiceE putE; rw [if_pos hin, HLK.out, if_neg (by have := HN20.out; omega)], show twiceM l (t : Int) = l ++ [atM l (t : Int)] by unfold twiceM putM; rw [if_pos hin, HLK.out, if_neg (by have := HN20.out; omega)]] at htw
          have HTW := Lib.hid htw
          have HRD := Lib.hid (And.intro hrd (And.intro hcell hok))
          have HM := Lib.hid hm
          clear htw hrd hm hin hd hcell hok
          go_upto_region 18 with (go_at_call 15; refine HTW.out.mono ?_; rintro e W3 ⟨rfl, Y3, hp3, ht3, hy3⟩)
          have hb3 := below_turn HX.out.2.2.2.2.2 (Nat.le_refl _) ht3 (fun i hi => by rw [hi]; exact HX.out.2.2.1 g HX.out.1.mem)
          have hcw := (hb3.cell (p := ad.add t) (by rw [block_add]; exact HRD.out.2.2)).trans HRD.out.2.1
          have hcv := str_rd ((HRD.out.1.kept fun a x ha h => (hb3.cell (p := a) ha).trans h).mono (ok' := fun b => b < W3.heap.size) fun b h => Nat.lt_of_lt_of_le h hb3.size)
          have hgv : ∀ b, u6.ownBlock = some b → ¬ b = g := fun b hb e => HX.out.2.2.2.2.1 b hb (by rw [e]; exact HX.out.1.mem)
          have hvY3 : ∀ b, u6.ownBlock = some b → ¬ Y3 b := fun b hb hy => by
            rcases hy3 b hy with h | h
            · exact HX.out.2.2.2.2.1 b hb h
            · have := (HX.out.2.2.2.1.lt b hb).2
              omega
          obtain ⟨vv, W4, hrun, hown4, hgr, hat⟩ := app_text hb3.size (ht3.own HX.out.2.2.2.1 hgv) d (by have := HN.out; have := HN20.out; omega)
          obtain ⟨ws, hws⟩ : ∃ ws, ps ++ [d] = ws := ⟨_, rfl⟩
          have HW21 : Hid (ws.length ≤ 21) := Lib.hid (by rw [← hws, List.length_append, HN.out]; have := HN20.out; simp; omega)
          have HST : Hid (OrdR w g ws ws vv W4) := Lib.hid (by
            rw [← hws]
            refine ⟨Y3, _, hp3.grown hgr hvY3, by rw [List.map_append, HX.out.2.1, List.map_singleton, HM.out], fun i hi => ?_, by rw [List.length_append]; exact hown4, fun b hb hy => ?_, hb3.grown hgr hb3.size fun b hb => (HX.out.2.2.2.1.lt b hb).1⟩
            · rcases hy3 i hi with h | h
              · exact HX.out.2.2.1 i h
              · exact Nat.le_trans HX.out.2.2.2.2.2.size h
            · rcases hat with h | ⟨b', h, hb'⟩
              · exact hvY3 b (h ▸ hb) hy
              · rw [hb] at h
                have := Option.some.inj h
                have := hp3.lt b hy
                omega)
          have HRUN := Lib.hid hrun
          clear hp3 ht3 hy3 hb3 hgv hrun hown4 hgr hat hvY3 hws
          go_upto_region 21 with (at_builtin; refine wpList_append_run rfl (.tmp 53) (.tmp 59) _ _ rfl _ _ rfl rfl _ _ HRUN.out ?_)
          obtain ⟨N, hN⟩ : ∃ N, ws.length = N := ⟨_, rfl⟩
          have HNN := Lib.hid hN
          have hN21 : N ≤ 21 := by rw [← hN]; exact HW21.out
          obtain ⟨Av, cv, rfl, hAc⟩ : ∃ Av cv, vv = .slice Av N cv ∧ N ≤ cv := by
            obtain ⟨Y0, l0, _, _, _, ho, _⟩ := HST.out
            rw [hN] at ho
            exact own_len ho
          clear hN
          go_wp2_with fail
          go_loopw [65] (fun i wr => ∃ j : Nat, j ≤ N ∧ i = .int .i64 (j : Int) ∧ OrdR w g ws (ws.drop j) (.slice Av N cv) wr) (fun i _ => N - (intOf i).toNat)
          case atStart => exact ⟨0, Nat.zero_le _, rfl, HST.out⟩
          case round =>
            clear HST
            obtain ⟨j, hj, rfl, Y, l, hp, hl, hY, hown, hvY, hbw⟩ := hrel
            by_cases hjN : j < N
            · have hji : (j : Int) < (N : Int) := by omega
              obtain ⟨b, hb⟩ : ∃ b, ws[j]? = some b := ⟨_, List.getElem?_eq_getElem (by rw [HNN.out]; exact hjN)⟩
              obtain ⟨m0, l', rfl, hm0, hl'⟩ := head_of hl hb
              rw [HNN.out] at hown
              obtain ⟨ad, rfl, hcell⟩ := str_here hown hb
              have htk := postTake_any 0 hp
              rw [(take_head m0 l').1, (take_head m0 l').2.1, (take_head m0 l').2.2] at htk
              have HTK := Lib.hid htk
              have hgY := And.intro (hY g hp.mem) hp.mem
              have HO := Lib.hid (And.intro hown (And.intro hvY (And.intro hY (And.intro hl' (And.intro hbw (And.intro hgY hm0))))))
              have hnq := neq_sameS b
              have HAD := Lib.hid (rfl : (Value.slice (some ad) N cv).ownBlock = some ad.block)
              clear hp hl hb hm0 hl' hY hown hvY hbw htk hgY
              go_upto_region 25 with (first
                | (go_at_call 13; refine HTK.out.mono ?_; rintro e W2 ⟨u, rfl, hr2, Y2, hp2, ht2, hy2⟩; obtain ⟨A', c', rfl⟩ := hr2.shape; have HRB := Lib.hid hr2; have HP2 := Lib.hid (And.intro hp2 (And.intro ht2 hy2)); clear hp2 ht2 hy2 hr2)
                | (guard_target = wpList _ _ _ (Oper.mk _ (.store 48 _ _) _ _ _ _ :: _) _ _; refine wpList_store_row rfl 48 _ _ rfl W2.heap.size (mC m0 (.slice A' m0.bs.length c')).toArray rfl rfl 48 _ (heap_alloc_new W2 _) (by kernel_rfl) rfl (mail_all rfl) ?_; rw [World.setRow_alloc_new]))
              obtain ⟨W3, hW3⟩ : ∃ W3, W2.alloc (.cells (mC m0 (.slice A' m0.bs.length c')).toArray 48) = W3 := ⟨_, rfl⟩
              rw [hW3]
              have hb3 : Below W2.heap.size W2 W3 := by rw [← hW3]; exact (Below.refl _ _).alloc (Nat.le_refl _) _
              have hk3 : Blk W3 W2.heap.size 48 #[.bool m0.fc, .int .i64 m0.fn, .bool m0.tc, .int .i64 m0.tn, .slice A' m0.bs.length c'] := by rw [← hW3]; exact Blk.newAt _ _ rfl rfl
              have m4 := hk3.cell 4
              simp at m4
              have hcv := str_rd (HRB.out.kept fun a x ha hx => (hb3.cell (p := a) ha.2).trans hx)
              rw [show (⟨m0.bs.toArray⟩ : ByteArray) = ⟨b.toArray⟩ by rw [HO.out.2.2.2.2.2.2]] at hcv
              have hgv : ∀ b, (Value.slice (some ad) N cv).ownBlock = some b → ¬ b = g := fun b hb e => HO.out.2.1 b hb (by rw [e]; exact HO.out.2.2.2.2.2.1.2)
              have hbb := below_turn HO.out.2.2.2.2.1 (Nat.le_refl _) HP2.out.2.1 (fun i hi => by rw [hi]; exact HO.out.2.2.2.2.2.1.1)
              have HEND : Hid (OrdR w g ws (ws.drop (j + 1)) (.slice (some ad) N cv) W3) := Lib.hid (by
                refine ⟨Y2, l', HP2.out.1.below hb3, HO.out.2.2.2.1, fun i hi => ?_, ?_, fun b hb hy => ?_, hbb.trans (hb3.mono hbb.size)⟩
                · rcases HP2.out.2.2 i hi with h | h
                  · exact HO.out.2.2.1 i h
                  · exact Nat.le_trans HO.out.2.2.2.2.1.size h
                · rw [HNN.out]
                  exact ownsRow_kept (HP2.out.2.1.own HO.out.1 hgv) hb3
                · rcases HP2.out.2.2 b hy with h | h
                  · exact HO.out.2.1 b hb h
                  · have := (HO.out.1.lt b hb).2
                    omega)
              clear hW3 hb3 hk3 hgv hbb
              go_wp2_with fail
              go_roundw
              case rel => exact ⟨j + 1, by omega, by go_num, HEND.out⟩
              case measure =>
                simp [intOf]
                omega
            · obtain rfl : j = N := by omega
              have hl0 : l = [] := by
                have : ws.drop j = [] := by rw [← HNN.out]; exact List.drop_length
                rw [this] at hl
                exact List.map_eq_nil_iff.1 hl
              subst hl0
              have htk := postTake_any 0 hp
              rw [take_none.1, take_none.2.1, take_none.2.2] at htk
              have HTK := Lib.hid htk
              have hgY := hY g hp.mem
              have HO := Lib.hid (And.intro hbw hgY)
              clear hp hl hY hown hvY hbw htk hgY
              go_upto_region 29 with (first
                | (go_at_call 13; refine HTK.out.mono ?_; rintro e W2 ⟨u, rfl, hr2, Y2, hp2, ht2, hy2⟩; obtain ⟨A', c', rfl⟩ := hr2.shape; have HP2 := Lib.hid hp2; have HB2 := Lib.hid (below_turn HO.out.1 (Nat.le_refl _) ht2 (fun i hi => by rw [hi]; exact HO.out.2)); clear hp2 ht2 hy2 hr2)
                | (guard_target = wpList _ _ _ (Oper.mk _ (.store 48 _ _) _ _ _ _ :: _) _ _; refine wpList_store_row rfl 48 _ _ rfl W2.heap.size (mC zeroM (.slice A' zeroM.bs.length c')).toArray rfl rfl 48 _ (heap_alloc_new W2 _) (by kernel_rfl) rfl (mail_all rfl) ?_; rw [World.setRow_alloc_new]))
              have hb3 : Below W2.heap.size W2 (W2.alloc (.cells (mC zeroM (.slice A' zeroM.bs.length c')).toArray 48)) := (Below.refl _ _).alloc (Nat.le_refl _) _
              have HP3 := Lib.hid (HP2.out.below hb3)
              have HB3 := Lib.hid (HB2.out.trans (hb3.mono HB2.out.size))
              clear hb3
              go_wp2_with (go_at_call 16; refine (postLen_any HP3.out).mono ?_; rintro e Wn ⟨rfl, rfl⟩)
              go_ret
              exact ⟨rfl, HB3.out⟩
        · by_cases h0 : twice < 0
          · have e5 : decide (twice ≥ 0) = false := decide_eq_false (by omega)
            rw [show twiceE l twice = 4 from if_neg hin, show twiceM l twice = l from if_neg hin] at htw
            have HTW := Lib.hid htw
            clear htw hin
            go_upto_region 21 with (go_at_call 15; refine HTW.out.mono ?_; rintro e W3 ⟨rfl, Y3, hp3, ht3, hy3⟩)
            obtain ⟨vv, hvv⟩ : ∃ vv, u6 = vv := ⟨_, rfl⟩
            obtain ⟨ws, hws⟩ : ∃ ws, ps = ws := ⟨_, rfl⟩
            have HW21 : Hid (ws.length ≤ 21) := Lib.hid (by rw [← hws, HN.out]; have := HN20.out; omega)
            have HST : Hid (OrdR w g ws ws vv W3) := Lib.hid (by
              have hb3 := below_turn HX.out.2.2.2.2.2 (Nat.le_refl _) ht3 (fun i hi => by rw [hi]; exact HX.out.2.2.1 g HX.out.1.mem)
              rw [← hws, ← hvv]
              refine ⟨Y3, l, hp3, HX.out.2.1, fun i hi => ?_, ht3.own HX.out.2.2.2.1 (fun b hb e => HX.out.2.2.2.2.1 b hb (by rw [e]; exact HX.out.1.mem)), fun b hb hy => ?_, hb3⟩
              · rcases hy3 i hi with h | h
                · exact HX.out.2.2.1 i h
                · exact Nat.le_trans HX.out.2.2.2.2.2.size h
              · rcases hy3 b hy with h | h
                · exact HX.out.2.2.2.2.1 b hb h
                · have := (HX.out.2.2.2.1.lt b hb).2
                  omega)
            rw [hvv]
            clear hp3 ht3 hy3 hvv hws
            obtain ⟨N, hN⟩ : ∃ N, ws.length = N := ⟨_, rfl⟩
            have HNN := Lib.hid hN
            have hN21 : N ≤ 21 := by rw [← hN]; exact HW21.out
            obtain ⟨Av, cv, rfl, hAc⟩ : ∃ Av cv, vv = .slice Av N cv ∧ N ≤ cv := by
              obtain ⟨Y0, l0, _, _, _, ho, _⟩ := HST.out
              rw [hN] at ho
              exact own_len ho
            clear hN
            go_wp2_with fail
            go_loopw [65] (fun i wr => ∃ j : Nat, j ≤ N ∧ i = .int .i64 (j : Int) ∧ OrdR w g ws (ws.drop j) (.slice Av N cv) wr) (fun i _ => N - (intOf i).toNat)
            case atStart => exact ⟨0, Nat.zero_le _, rfl, HST.out⟩
            case round =>
              clear HST
              obtain ⟨j, hj, rfl, Y, l, hp, hl, hY, hown, hvY, hbw⟩ := hrel
              by_cases hjN : j < N
              · have hji : (j : Int) < (N : Int) := by omega
                obtain ⟨b, hb⟩ : ∃ b, ws[j]? = some b := ⟨_, List.getElem?_eq_getElem (by rw [HNN.out]; exact hjN)⟩
                obtain ⟨m0, l', rfl, hm0, hl'⟩ := head_of hl hb
                rw [HNN.out] at hown
                obtain ⟨ad, rfl, hcell⟩ := str_here hown hb
                have htk := postTake_any 0 hp
                rw [(take_head m0 l').1, (take_head m0 l').2.1, (take_head m0 l').2.2] at htk
                have HTK := Lib.hid htk
                have hgY := And.intro (hY g hp.mem) hp.mem
                have HO := Lib.hid (And.intro hown (And.intro hvY (And.intro hY (And.intro hl' (And.intro hbw (And.intro hgY hm0))))))
                have hnq := neq_sameS b
                have HAD := Lib.hid (rfl : (Value.slice (some ad) N cv).ownBlock = some ad.block)
                clear hp hl hb hm0 hl' hY hown hvY hbw htk hgY
                go_upto_region 25 with (first
                  | (go_at_call 13; refine HTK.out.mono ?_; rintro e W2 ⟨u, rfl, hr2, Y2, hp2, ht2, hy2⟩; obtain ⟨A', c', rfl⟩ := hr2.shape; have HRB := Lib.hid hr2; have HP2 := Lib.hid (And.intro hp2 (And.intro ht2 hy2)); clear hp2 ht2 hy2 hr2)
                  | (guard_target = wpList _ _ _ (Oper.mk _ (.store 48 _ _) _ _ _ _ :: _) _ _; refine wpList_store_row rfl 48 _ _ rfl W2.heap.size (mC m0 (.slice A' m0.bs.length c')).toArray rfl rfl 48 _ (heap_alloc_new W2 _) (by kernel_rfl) rfl (mail_all rfl) ?_; rw [World.setRow_alloc_new]))
                obtain ⟨W3, hW3⟩ : ∃ W3, W2.alloc (.cells (mC m0 (.slice A' m0.bs.length c')).toArray 48) = W3 := ⟨_, rfl⟩
                rw [hW3]
                have hb3 : Below W2.heap.size W2 W3 := by rw [← hW3]; exact (Below.refl _ _).alloc (Nat.le_refl _) _
                have hk3 : Blk W3 W2.heap.size 48 #[.bool m0.fc, .int .i64 m0.fn, .bool m0.tc, .int .i64 m0.tn, .slice A' m0.bs.length c'] := by rw [← hW3]; exact Blk.newAt _ _ rfl rfl
                have m4 := hk3.cell 4
                simp at m4
                have hcv := str_rd (HRB.out.kept fun a x ha hx => (hb3.cell (p := a) ha.2).trans hx)
                rw [show (⟨m0.bs.toArray⟩ : ByteArray) = ⟨b.toArray⟩ by rw [HO.out.2.2.2.2.2.2]] at hcv
                have hgv : ∀ b, (Value.slice (some ad) N cv).ownBlock = some b → ¬ b = g := fun b hb e => HO.out.2.1 b hb (by rw [e]; exact HO.out.2.2.2.2.2.1.2)
                have hbb := below_turn HO.out.2.2.2.2.1 (Nat.le_refl _) HP2.out.2.1 (fun i hi => by rw [hi]; exact HO.out.2.2.2.2.2.1.1)
                have HEND : Hid (OrdR w g ws (ws.drop (j + 1)) (.slice (some ad) N cv) W3) := Lib.hid (by
                  refine ⟨Y2, l', HP2.out.1.below hb3, HO.out.2.2.2.1, fun i hi => ?_, ?_, fun b hb hy => ?_, hbb.trans (hb3.mono hbb.size)⟩
                  · rcases HP2.out.2.2 i hi with h | h
                    · exact HO.out.2.2.1 i h
                    · exact Nat.le_trans HO.out.2.2.2.2.1.size h
                  · rw [HNN.out]
                    exact ownsRow_kept (HP2.out.2.1.own HO.out.1 hgv) hb3
                  · rcases HP2.out.2.2 b hy with h | h
                    · exact HO.out.2.1 b hb h
                    · have := (HO.out.1.lt b hb).2
                      omega)
                clear hW3 hb3 hk3 hgv hbb
                go_wp2_with fail
                go_roundw
                case rel => exact ⟨j + 1, by omega, by go_num, HEND.out⟩
                case measure =>
                  simp [intOf]
                  omega
              · obtain rfl : j = N := by omega
                have hl0 : l = [] := by
                  have : ws.drop j = [] := by rw [← HNN.out]; exact List.drop_length
                  rw [this] at hl
                  exact List.map_eq_nil_iff.1 hl
                subst hl0
                have htk := postTake_any 0 hp
                rw [take_none.1, take_none.2.1, take_none.2.2] at htk
                have HTK := Lib.hid htk
                have hgY := hY g hp.mem
                have HO := Lib.hid (And.intro hbw hgY)
                clear hp hl hY hown hvY hbw htk hgY
                go_upto_region 29 with (first
                  | (go_at_call 13; refine HTK.out.mono ?_; rintro e W2 ⟨u, rfl, hr2, Y2, hp2, ht2, hy2⟩; obtain ⟨A', c', rfl⟩ := hr2.shape; have HP2 := Lib.hid hp2; have HB2 := Lib.hid (below_turn HO.out.1 (Nat.le_refl _) ht2 (fun i hi => by rw [hi]; exact HO.out.2)); clear hp2 ht2 hy2 hr2)
                  | (guard_target = wpList _ _ _ (Oper.mk _ (.store 48 _ _) _ _ _ _ :: _) _ _; refine wpList_store_row rfl 48 _ _ rfl W2.heap.size (mC zeroM (.slice A' zeroM.bs.length c')).toArray rfl rfl 48 _ (heap_alloc_new W2 _) (by kernel_rfl) rfl (mail_all rfl) ?_; rw [World.setRow_alloc_new]))
                have hb3 : Below W2.heap.size W2 (W2.alloc (.cells (mC zeroM (.slice A' zeroM.bs.length c')).toArray 48)) := (Below.refl _ _).alloc (Nat.le_refl _) _
                have HP3 := Lib.hid (HP2.out.below hb3)
                have HB3 := Lib.hid (HB2.out.trans (hb3.mono HB2.out.size))
                clear hb3
                go_wp2_with (go_at_call 16; refine (postLen_any HP3.out).mono ?_; rintro e Wn ⟨rfl, rfl⟩)
                go_ret
                exact ⟨rfl, HB3.out⟩
          · have e5 : decide (twice ≥ 0) = true := decide_eq_true (by omega)
            have e6 : decide (twice < (k : Int)) = false := decide_eq_false (fun h => hin ⟨by omega, by rw [HLK.out]; exact h⟩)
            rw [show twiceE l twice = 4 from if_neg hin, show twiceM l twice = l from if_neg hin] at htw
            have HTW := Lib.hid htw
            clear htw hin
            go_upto_region 21 with (go_at_call 15; refine HTW.out.mono ?_; rintro e W3 ⟨rfl, Y3, hp3, ht3, hy3⟩)
            obtain ⟨vv, hvv⟩ : ∃ vv, u6 = vv := ⟨_, rfl⟩
            obtain ⟨ws, hws⟩ : ∃ ws, ps = ws := ⟨_, rfl⟩
            have HW21 : Hid (ws.length ≤ 21) := Lib.hid (by rw [← hws, HN.out]; have := HN20.out; omega)
            have HST : Hid (OrdR w g ws ws vv W3) := Lib.hid (by
              have hb3 := below_turn HX.out.2.2.2.2.2 (Nat.le_refl _) ht3 (fun i hi => by rw [hi]; exact HX.out.2.2.1 g HX.out.1.mem)
              rw [← hws, ← hvv]
              refine ⟨Y3, l, hp3, HX.out.2.1, fun i hi => ?_, ht3.own HX.out.2.2.2.1 (fun b hb e => HX.out.2.2.2.2.1 b hb (by rw [e]; exact HX.out.1.mem)), fun b hb hy => ?_, hb3⟩
              · rcases hy3 i hi with h | h
                · exact HX.out.2.2.1 i h
                · exact Nat.le_trans HX.out.2.2.2.2.2.size h
              · rcases hy3 b hy with h | h
                · exact HX.out.2.2.2.2.1 b hb h
                · have := (HX.out.2.2.2.1.lt b hb).2
                  omega)
            rw [hvv]
            clear hp3 ht3 hy3 hvv hws
            obtain ⟨N, hN⟩ : ∃ N, ws.length = N := ⟨_, rfl⟩
            have HNN := Lib.hid hN
            have hN21 : N ≤ 21 := by rw [← hN]; exact HW21.out
            obtain ⟨Av, cv, rfl, hAc⟩ : ∃ Av cv, vv = .slice Av N cv ∧ N ≤ cv := by
              obtain ⟨Y0, l0, _, _, _, ho, _⟩ := HST.out
              rw [hN] at ho
              exact own_len ho
            clear hN
            go_wp2_with fail
            go_loopw [65] (fun i wr => ∃ j : Nat, j ≤ N ∧ i = .int .i64 (j : Int) ∧ OrdR w g ws (ws.drop j) (.slice Av N cv) wr) (fun i _ => N - (intOf i).toNat)
            case atStart => exact ⟨0, Nat.zero_le _, rfl, HST.out⟩
            case round =>
              clear HST
              obtain ⟨j, hj, rfl, Y, l, hp, hl, hY, hown, hvY, hbw⟩ := hrel
              by_cases hjN : j < N
              · have hji : (j : Int) < (N : Int) := by omega
                obtain ⟨b, hb⟩ : ∃ b, ws[j]? = some b := ⟨_, List.getElem?_eq_getElem (by rw [HNN.out]; exact hjN)⟩
                obtain ⟨m0, l', rfl, hm0, hl'⟩ := head_of hl hb
                rw [HNN.out] at hown
                obtain ⟨ad, rfl, hcell⟩ := str_here hown hb
                have htk := postTake_any 0 hp
                rw [(take_head m0 l').1, (take_head m0 l').2.1, (take_head m0 l').2.2] at htk
                have HTK := Lib.hid htk
                have hgY := And.intro (hY g hp.mem) hp.mem
                have HO := Lib.hid (And.intro hown (And.intro hvY (And.intro hY (And.intro hl' (And.intro hbw (And.intro hgY hm0))))))
                have hnq := neq_sameS b
                have HAD := Lib.hid (rfl : (Value.slice (some ad) N cv).ownBlock = some ad.block)
                clear hp hl hb hm0 hl' hY hown hvY hbw htk hgY
                go_upto_region 25 with (first
                  | (go_at_call 13; refine HTK.out.mono ?_; rintro e W2 ⟨u, rfl, hr2, Y2, hp2, ht2, hy2⟩; obtain ⟨A', c', rfl⟩ := hr2.shape; have HRB := Lib.hid hr2; have HP2 := Lib.hid (And.intro hp2 (And.intro ht2 hy2)); clear hp2 ht2 hy2 hr2)
                  | (guard_target = wpList _ _ _ (Oper.mk _ (.store 48 _ _) _ _ _ _ :: _) _ _; refine wpList_store_row rfl 48 _ _ rfl W2.heap.size (mC m0 (.slice A' m0.bs.length c')).toArray rfl rfl 48 _ (heap_alloc_new W2 _) (by kernel_rfl) rfl (mail_all rfl) ?_; rw [World.setRow_alloc_new]))
                obtain ⟨W3, hW3⟩ : ∃ W3, W2.alloc (.cells (mC m0 (.slice A' m0.bs.length c')).toArray 48) = W3 := ⟨_, rfl⟩
                rw [hW3]
                have hb3 : Below W2.heap.size W2 W3 := by rw [← hW3]; exact (Below.refl _ _).alloc (Nat.le_refl _) _
                have hk3 : Blk W3 W2.heap.size 48 #[.bool m0.fc, .int .i64 m0.fn, .bool m0.tc, .int .i64 m0.tn, .slice A' m0.bs.length c'] := by rw [← hW3]; exact Blk.newAt _ _ rfl rfl
                have m4 := hk3.cell 4
                simp at m4
                have hcv := str_rd (HRB.out.kept fun a x ha hx => (hb3.cell (p := a) ha.2).trans hx)
                rw [show (⟨m0.bs.toArray⟩ : ByteArray) = ⟨b.toArray⟩ by rw [HO.out.2.2.2.2.2.2]] at hcv
                have hgv : ∀ b, (Value.slice (some ad) N cv).ownBlock = some b → ¬ b = g := fun b hb e => HO.out.2.1 b hb (by rw [e]; exact HO.out.2.2.2.2.2.1.2)
                have hbb := below_turn HO.out.2.2.2.2.1 (Nat.le_refl _) HP2.out.2.1 (fun i hi => by rw [hi]; exact HO.out.2.2.2.2.2.1.1)
                have HEND : Hid (OrdR w g ws (ws.drop (j + 1)) (.slice (some ad) N cv) W3) := Lib.hid (by
                  refine ⟨Y2, l', HP2.out.1.below hb3, HO.out.2.2.2.1, fun i hi => ?_, ?_, fun b hb hy => ?_, hbb.trans (hb3.mono hbb.size)⟩
                  · rcases HP2.out.2.2 i hi with h | h
                    · exact HO.out.2.2.1 i h
                    · exact Nat.le_trans HO.out.2.2.2.2.1.size h
                  · rw [HNN.out]
                    exact ownsRow_kept (HP2.out.2.1.own HO.out.1 hgv) hb3
                  · rcases HP2.out.2.2 b hy with h | h
                    · exact HO.out.2.1 b hb h
                    · have := (HO.out.1.lt b hb).2
                      omega)
                clear hW3 hb3 hk3 hgv hbb
                go_wp2_with fail
                go_roundw
                case rel => exact ⟨j + 1, by omega, by go_num, HEND.out⟩
                case measure =>
                  simp [intOf]
                  omega
              · obtain rfl : j = N := by omega
                have hl0 : l = [] := by
                  have : ws.drop j = [] := by rw [← HNN.out]; exact List.drop_length
                  rw [this] at hl
                  exact List.map_eq_nil_iff.1 hl
                subst hl0
                have htk := postTake_any 0 hp
                rw [take_none.1, take_none.2.1, take_none.2.2] at htk
                have HTK := Lib.hid htk
                have hgY := hY g hp.mem
                have HO := Lib.hid (And.intro hbw hgY)
                clear hp hl hY hown hvY hbw htk hgY
                go_upto_region 29 with (first
                  | (go_at_call 13; refine HTK.out.mono ?_; rintro e W2 ⟨u, rfl, hr2, Y2, hp2, ht2, hy2⟩; obtain ⟨A', c', rfl⟩ := hr2.shape; have HP2 := Lib.hid hp2; have HB2 := Lib.hid (below_turn HO.out.1 (Nat.le_refl _) ht2 (fun i hi => by rw [hi]; exact HO.out.2)); clear hp2 ht2 hy2 hr2)
                  | (guard_target = wpList _ _ _ (Oper.mk _ (.store 48 _ _) _ _ _ _ :: _) _ _; refine wpList_store_row rfl 48 _ _ rfl W2.heap.size (mC zeroM (.slice A' zeroM.bs.length c')).toArray rfl rfl 48 _ (heap_alloc_new W2 _) (by kernel_rfl) rfl (mail_all rfl) ?_; rw [World.setRow_alloc_new]))
                have hb3 : Below W2.heap.size W2 (W2.alloc (.cells (mC zeroM (.slice A' zeroM.bs.length c')).toArray 48)) := (Below.refl _ _).alloc (Nat.le_refl _) _
                have HP3 := Lib.hid (HP2.out.below hb3)
                have HB3 := Lib.hid (HB2.out.trans (hb3.mono HB2.out.size))
                clear hb3
                go_wp2_with (go_at_call 16; refine (postLen_any HP3.out).mono ?_; rintro e Wn ⟨rfl, rfl⟩)
                go_ret
                exact ⟨rfl, HB3.out⟩
end Go.Proofs.Ytplcanoihojnpaa
