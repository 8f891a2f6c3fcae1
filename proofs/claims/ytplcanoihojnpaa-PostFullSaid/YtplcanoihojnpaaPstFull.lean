/-
  Layer 21: the law PostFull. In whatever memory. No condition.
-/
import Derived.Test.YtplcanoihojnpaaPstCar
import Derived.Test.YtplcanoihojnpaaPstAll
import Derived.Test.YtplcanoihojnpaaIncRow
namespace Go.Proofs.Ytplcanoihojnpaa
open Go Go.RowKit PackMath
attribute [local go_sem] Oper.semAt_some

theorem eql_sameS (b : List UInt8) (w : World) : (binOp .eql 9 (.string ⟨b.toArray⟩) (.string ⟨b.toArray⟩)).run Try.prog w = .ok (.bool true) w := by
  show (Op.stringOp .eql ⟨b.toArray⟩ ⟨b.toArray⟩).run Try.prog w = _
  simp [Op.stringOp]
theorem take_head (m0 : MailS) (l' : List MailS) : atM (m0 :: l') 0 = m0 ∧ codeM (m0 :: l') 0 = 0 ∧ takeM (m0 :: l') 0 = l' := by
  have h : isAt (m0 :: l') 0 := ⟨by omega, by rw [List.length_cons]; omega⟩
  unfold atM codeM takeM
  rw [if_pos h, if_pos h, if_pos h]
  exact ⟨rfl, rfl, rfl⟩
theorem Blk.putObj {W : World} {g l : Nat} {t : TypeId} {cs : Array Value} {o : Obj} (h : Blk W g t cs) (o' : Obj) (hl : W.heap[l]? = some o) (ho : o.isCells = false) : Blk (W.putObj l o') g t cs := by
  refine (World.putObj_heap_other (fun e => ?_)).trans h
  subst e
  unfold Blk at h
  rw [h] at hl
  cases hl
  cases ho
theorem own_putObj {B k n l : Nat} {e : TypeId} {v : Value} {xs : List Value} {W : World} {o : Obj} (h : W.ownsRow B e k v n xs) (o' : Obj) (hl : W.heap[l]? = some o) (ho : o.isCells = false) : (W.putObj l o').ownsRow B e k v n xs := by
  refine ⟨h.1, ?_⟩
  rcases h.2 with h0 | ⟨g, cap, cur, h1, h2, h3, h4⟩
  · exact .inl h0
  · exact .inr ⟨g, cap, cur, h1, h2, Blk.putObj h3 o' hl ho, h4⟩
theorem turn_stay {B : Nat} {o : Nat → Prop} {W W' : World} (h : Stay B o W W') : Turn (fun i => B ≤ i) W W' := ⟨h.os, h.tape, h.output, h.size, fun i hi hn => h.block i (.inl (by omega)) hi⟩
/-- What is there while the first message is looked at. -/
def FullI (w : World) (Y : Nat → Prop) (g : Nat) (l : List MailS) (_ : List (MailS × Nat)) (o : Nat → Prop) (W : World) : Prop := PostAt W Y g l ∧ Below w.heap.size w W ∧ ∀ b, ¬ o b
theorem fullI_ab {w : World} {Y : Nat → Prop} {g B : Nat} {l : List MailS} (hY : ∀ i, Y i → i < B) (hB : w.heap.size ≤ B) (Q : Prop) (f : List (MailS × Nat) → Prop) : AbO B (fun pre o W => Q ∧ f pre ∧ FullI w Y g l pre o W) :=
  ⟨fun s o W W' hs hst => ⟨hs.1, hs.2.1, hs.2.2.1.turn (turn_stay hst) fun i hi h => by have := hY i hi; omega, hs.2.2.2.1.trans ((turn_stay hst).below (Nat.le_trans hs.2.2.2.1.size (Nat.le_refl _)) fun i hi h => by omega), hs.2.2.2.2⟩, fun s o W hs b hb => (hs.2.2.2.2 b hb).elim⟩
/-- So many are on their way, all alike. -/
def FullR (w : World) (g i : Nat) (bs : List UInt8) (wr : World) : Prop :=
  ∃ Y l, PostAt wr Y g l ∧ (∀ m ∈ l, m.bs = bs) ∧ l.length = min i 600 ∧ (∀ b, Y b → w.heap.size ≤ b) ∧ Below w.heap.size w wr
set_option maxRecDepth 100000 in
set_option maxHeartbeats 16000000 in
theorem full_law (n : Int) (A : Option Addr) (c : Nat) (bs : List UInt8) (w : World) (hr : RdB w (fun b => b < w.heap.size) (.slice A bs.length c) bs) :
    Calls Try.prog 4 #[.int .i64 n, .slice A bs.length c] w fun e w' => e = .returned (.bool true) ∧ Below w.heap.size w w' := by
  obtain ⟨m, hm⟩ : ∃ m, bs.length = m := ⟨_, rfl⟩
  rw [hm] at hr ⊢
  have HM := Lib.hid hm
  have HR := Lib.hid hr
  clear hm hr
  by_cases h0 : n < 590
  · have e1 : decide (n < 590) = true := decide_eq_true h0
    go_enter Try.func4, Try.ntmps4
    go_wp2_with (go_at_call 6; refine (carries_any _).mono ?_; rintro e W1 ⟨rfl, hb1⟩)
    go_ret
    exact ⟨rfl, hb1⟩
  · have e1 : decide (n < 590) = false := decide_eq_false h0
    by_cases h6 : 610 < n
    · have e2 : decide (n > 610) = true := decide_eq_true h6
      go_enter Try.func4, Try.ntmps4
      go_wp2_with (go_at_call 6; refine (carries_any _).mono ?_; rintro e W1 ⟨rfl, hb1⟩)
      go_ret
      exact ⟨rfl, hb1⟩
    · have e2 : decide (n > 610) = false := decide_eq_false h6
      by_cases h100 : 100 < m
      · have e3 : decide ((m : Int) > 100) = true := decide_eq_true (by omega)
        go_enter Try.func4, Try.ntmps4
        go_wp2_with (go_at_call 6; refine (carries_any _).mono ?_; rintro e W1 ⟨rfl, hb1⟩)
        go_ret
        exact ⟨rfl, hb1⟩
      · have e3 : decide ((m : Int) > 100) = false := decide_eq_false (by omega)
        obtain ⟨N, rfl⟩ : ∃ N : Nat, n = (N : Int) := ⟨n.toNat, by omega⟩
        have hN1 : 590 ≤ N := by omega
        have hN2 : N ≤ 610 := by omega
        have hm1 : m ≤ 100 := by omega
        clear h0 h6 h100
        refine (callsIn_wide (n := 0)).1 ?_
        refine callsIn_of_wp_marks Try.func4 rfl trivial ?_ rfl
        refine wpIn_wide.2 ?_
        simp only [Try.ntmps4, List.size_toArray, List.length_cons, List.length_nil, Nat.reduceAdd, Nat.reduceSub, Array.replicate_succ, Array.replicate_zero, List.push_toArray, List.append_toArray, List.nil_append, List.cons_append]

        go_upto_region 6 with (go_at_call 6; refine (carries_any _).mono ?_; rintro e W1 ⟨rfl, hb1⟩)
        obtain ⟨g, hg⟩ : ∃ g, W1.heap.size = g := ⟨_, rfl⟩
        have hp0 := post_new W1
        obtain ⟨W2, hW2⟩ : ∃ W2, W1.alloc (.cells #[.slice none 0 0] 26) = W2 := ⟨_, rfl⟩
        have hb2 : Below W1.heap.size W1 W2 := by rw [← hW2]; exact (Below.refl _ _).alloc (Nat.le_refl _) _
        rw [hW2, hg] at hp0
        rw [hW2, hg]
        have HSTART : Hid (FullR w g 0 bs W2) := Lib.hid ⟨_, [], hp0, (fun m hm => by cases hm), rfl, (fun i hi => by rw [hi, ← hg]; exact hb1.size), hb1.trans (hb2.mono hb1.size)⟩
        clear hp0 hW2 hb2 hg hb1
        go_wp2_with fail
        go_loopw [6] (fun i wr => ∃ k : Nat, k ≤ N ∧ i = .int .i64 (k : Int) ∧ FullR w g k bs wr) (fun i _ => N - (intOf i).toNat)
        case atStart => exact ⟨0, Nat.zero_le _, rfl, HSTART.out⟩
        case round =>
          clear HSTART
          obtain ⟨k, hk, rfl, Y, l, hp, hl, hln, hY, hbw⟩ := hrel
          by_cases hkN : k < N
          · have hki : (k : Int) < (N : Int) := by omega
            have hrw := HR.out.kept fun a x ha h => (hbw.cell (p := a) ha).trans h
            obtain ⟨A3, c3, w3, run3, own3, hb3⟩ := mine_part hrw (fun i hi => Nat.lt_of_lt_of_le hi hbw.size) (by omega)
            have HRUN := Lib.hid run3
            have hpu := postPut_any (m := ⟨false, 0, false, 0, bs⟩) (hp.below hb3) ((rdB_own own3 HM.out (by omega)).mono fun b hb => hb.2)
            have hgY := And.intro (hY g hp.mem) hp.mem
            have HO := Lib.hid (And.intro own3 (And.intro hb3 (And.intro hY (And.intro hl (And.intro hbw (And.intro hgY hp.lt))))))
            clear hrw run3 hp
            by_cases h6 : k < 600
            · have hk6 : (k : Int) < 600 := by omega
              rw [show putE l = 0 from if_neg (by omega), show putM l ⟨false, 0, false, 0, bs⟩ = l ++ [⟨false, 0, false, 0, bs⟩] from if_neg (by omega)] at hpu
              have HPU := Lib.hid hpu
              have HLN : Hid ((l ++ [(⟨false, 0, false, 0, bs⟩ : MailS)]).length = min (k + 1) 600 ∧ ∀ m ∈ l ++ [(⟨false, 0, false, 0, bs⟩ : MailS)], m.bs = bs) := Lib.hid ⟨by rw [List.length_append, hln, List.length_singleton]; omega, fun m hm => by
                rcases List.mem_append.1 hm with h | h
                · exact HO.out.2.2.2.1 m h
                · rw [List.mem_singleton.1 h]⟩
              clear hl hln hY hbw own3 hb3 hpu hgY
              go_upto_region 13 with (first
                | (at_builtin; refine wpList_append_run rfl (.tmp 33) (.tmp 34) _ _ rfl _ _ rfl rfl _ _ HRUN.out ?_)
                | (go_at_call 11; refine HPU.out.mono ?_; rintro e W3 ⟨rfl, Y3, hp3, ht3, hy3⟩))
              have hown : W3.ownsRow wr.heap.size 5 1 (.slice A3 m c3) m (bs.map bv) := ht3.own HO.out.1 fun b hb e => by
                have := (HO.out.1.lt b hb).1
                have := HO.out.2.2.2.2.2.2 g HO.out.2.2.2.2.2.1.2
                omega
              have hb03 : Below w.heap.size w W3 := below_turn (HO.out.2.2.2.2.1.trans (HO.out.2.1.mono HO.out.2.2.2.2.1.size)) (Nat.le_refl _) ht3 (fun i hi => by rw [hi]; exact HO.out.2.2.2.2.2.1.1)
              have HOWN := Lib.hid hown
              have HB03 := Lib.hid hb03
              have HSZ := Lib.hid (And.intro HO.out.2.2.2.2.1.size HO.out.2.1.size)
              have HEND : Hid (∀ wx, IncRel W3 wx A3 m → FullR w g (k + 1) bs wx) := Lib.hid fun wx hi => by
                refine ⟨Y3, _, hp3.turn hi.2 fun i hy he => ?_, HLN.out.2, HLN.out.1, fun b hb => ?_, below_turn hb03 (Nat.le_refl _) hi.2 fun i he => ?_⟩
                · have h1 := HO.out.1.lt i (own_block_of he)
                  rcases hy3 i hy with h | h
                  · have := HO.out.2.2.2.2.2.2 i h
                    omega
                  · omega
                · rcases hy3 b hb with h | h
                  · exact HO.out.2.2.1 b h
                  · exact Nat.le_trans HSZ.out.1 (Nat.le_trans HSZ.out.2 h)
                · have h1 := (HO.out.1.lt i (own_block_of he)).1
                  exact Nat.le_trans HSZ.out.1 h1
              clear hp3 ht3 hy3 hown hb03
              obtain ⟨wz, hwz⟩ : ∃ z, z = wr := ⟨_, rfl⟩
              subst hwz
              go_wp2_with fail
              go_loopw [54] (fun i wx => ∃ q : Nat, q ≤ m ∧ i = .int .i64 (q : Int) ∧ IncRel W3 wx A3 m) (fun i _ => m - (intOf i).toNat)
              case atStart => exact ⟨0, Nat.zero_le _, rfl, inc_start HOWN.out⟩
              case round =>
                obtain ⟨q, hq, rfl, hinc⟩ := hrel
                by_cases hqm : q < m
                · obtain ⟨G, rfl⟩ := own_addr HOWN.out (by omega)
                  obtain ⟨y, hcc, hff, hnext⟩ := inc_open hinc hqm
                  have HNX := Lib.hid hnext
                  have hqi : (q : Int) < (m : Int) := by omega
                  clear hinc hnext
                  go_wp2
                  go_roundw
                  case rel => exact ⟨q + 1, by omega, by go_num, HNX.out _⟩
                  case measure =>
                    simp [intOf]
                    omega
                · obtain rfl : q = m := by omega
                  have HE := Lib.hid (HEND.out _ hinc)
                  clear hinc
                  go_wp2
                  go_roundw
                  case rel => exact ⟨k + 1, by omega, by go_num, HE.out⟩
                  case measure =>
                    simp [intOf]
                    omega
            · have hk6 : ¬ (k : Int) < 600 := by omega
              rw [show putE l = 3 from if_pos (by omega), show putM l ⟨false, 0, false, 0, bs⟩ = l from if_pos (by omega)] at hpu
              have HPU := Lib.hid hpu
              have HLN : Hid (l.length = min (k + 1) 600 ∧ ∀ m ∈ l, m.bs = bs) := Lib.hid ⟨by omega, hl⟩
              clear hl hln hY hbw own3 hb3 hpu hgY
              go_upto_region 13 with (first
                | (at_builtin; refine wpList_append_run rfl (.tmp 33) (.tmp 34) _ _ rfl _ _ rfl rfl _ _ HRUN.out ?_)
                | (go_at_call 11; refine HPU.out.mono ?_; rintro e W3 ⟨rfl, Y3, hp3, ht3, hy3⟩))
              have hown : W3.ownsRow wr.heap.size 5 1 (.slice A3 m c3) m (bs.map bv) := ht3.own HO.out.1 fun b hb e => by
                have := (HO.out.1.lt b hb).1
                have := HO.out.2.2.2.2.2.2 g HO.out.2.2.2.2.2.1.2
                omega
              have hb03 : Below w.heap.size w W3 := below_turn (HO.out.2.2.2.2.1.trans (HO.out.2.1.mono HO.out.2.2.2.2.1.size)) (Nat.le_refl _) ht3 (fun i hi => by rw [hi]; exact HO.out.2.2.2.2.2.1.1)
              have HOWN := Lib.hid hown
              have HB03 := Lib.hid hb03
              have HSZ := Lib.hid (And.intro HO.out.2.2.2.2.1.size HO.out.2.1.size)
              have HEND : Hid (∀ wx, IncRel W3 wx A3 m → FullR w g (k + 1) bs wx) := Lib.hid fun wx hi => by
                refine ⟨Y3, _, hp3.turn hi.2 fun i hy he => ?_, HLN.out.2, HLN.out.1, fun b hb => ?_, below_turn hb03 (Nat.le_refl _) hi.2 fun i he => ?_⟩
                · have h1 := HO.out.1.lt i (own_block_of he)
                  rcases hy3 i hy with h | h
                  · have := HO.out.2.2.2.2.2.2 i h
                    omega
                  · omega
                · rcases hy3 b hb with h | h
                  · exact HO.out.2.2.1 b h
                  · exact Nat.le_trans HSZ.out.1 (Nat.le_trans HSZ.out.2 h)
                · have h1 := (HO.out.1.lt i (own_block_of he)).1
                  exact Nat.le_trans HSZ.out.1 h1
              clear hp3 ht3 hy3 hown hb03
              obtain ⟨wz, hwz⟩ : ∃ z, z = wr := ⟨_, rfl⟩
              subst hwz
              go_wp2_with fail
              go_loopw [54] (fun i wx => ∃ q : Nat, q ≤ m ∧ i = .int .i64 (q : Int) ∧ IncRel W3 wx A3 m) (fun i _ => m - (intOf i).toNat)
              case atStart => exact ⟨0, Nat.zero_le _, rfl, inc_start HOWN.out⟩
              case round =>
                obtain ⟨q, hq, rfl, hinc⟩ := hrel
                by_cases hqm : q < m
                · obtain ⟨G, rfl⟩ := own_addr HOWN.out (by omega)
                  obtain ⟨y, hcc, hff, hnext⟩ := inc_open hinc hqm
                  have HNX := Lib.hid hnext
                  have hqi : (q : Int) < (m : Int) := by omega
                  clear hinc hnext
                  go_wp2
                  go_roundw
                  case rel => exact ⟨q + 1, by omega, by go_num, HNX.out _⟩
                  case measure =>
                    simp [intOf]
                    omega
                · obtain rfl : q = m := by omega
                  have HE := Lib.hid (HEND.out _ hinc)
                  clear hinc
                  go_wp2
                  go_roundw
                  case rel => exact ⟨k + 1, by omega, by go_num, HE.out⟩
                  case measure =>
                    simp [intOf]
                    omega
          · obtain rfl : k = N := by omega
            have HX := Lib.hid (And.intro hp (And.intro hl (And.intro hln (And.intro hY hbw))))
            clear hp hl hln hY hbw
            go_wp2_with (go_at_call 18; refine (postAll_any g _).mono ?_; rintro e Wa ⟨rfl, hWa⟩)
            rw [← hWa]
            have hWB : Below wr.heap.size wr Wa := by rw [hWa]; exact (Below.refl _ _).alloc (Nat.le_refl _) _
            have hbp : Blk Wa wr.heap.size 59 #[.pointer (some ⟨g, 0, none⟩)] := by rw [hWa]; exact Blk.newAt _ _ rfl rfl
            have hpa := HX.out.1.below hWB
            have hseq := all_seq hpa hbp
            have hl0 : 0 < l.length := by have := HX.out.2.2.1; omega
            have hYa : ∀ i, Y i → i < Wa.heap.size := hpa.lt
            have hba : Below w.heap.size w Wa := HX.out.2.2.2.2.trans (hWB.mono HX.out.2.2.2.2.size)
            have hsa := hba.size
            have HSQ := Lib.hid hseq
            have HL0 := Lib.hid (And.intro hl0 hsa)
            have HY := Lib.hid (And.intro hYa (And.intro HX.out.2.2.2.1 (And.intro HX.out.2.1 (And.intro HX.out.2.2.1 hpa.mem))))
            have HR' := Lib.hid HR.out
            clear hseq hbp hWB hWa HX hsa hl0
            refine (wpIn_wide (n := 0)).1 ?_
            refine wpIn_rangeFunc_G (gf := 27) (lb := #[.pointer (some ⟨wr.heap.size, 0, none⟩)]) rfl (enters_of Try.func27 (by kernel_rfl) rfl) HSQ.out
              (fun x o s W vs h => by obtain ⟨u, rfl, _⟩ := h; rfl)
              (fun pre o W => True ∧ pre = [] ∧ FullI w Y g l pre o W) (fun cd pre o W => cd = Code.exit 4 ∧ True ∧ FullI w Y g l pre o W) (fullI_ab HY.out.1 HL0.out.2 True _) (fun cd => fullI_ab HY.out.1 HL0.out.2 _ (fun _ => True))
              (fun _ => False) ⟨trivial, rfl, hpa, hba, fun b hb => hb⟩ (fun b hb => hb.elim)
              (fun x o s a' W => ∃ A' c' b5, a' = { tmps := #[.int .i64 (k : Int), .slice A m c, undef, undef, u4, .pointer (some ⟨g, 0, none⟩), .int .i64 (k : Int), u7, u8, u9, undef, .pointer (some ⟨b5, 0, none⟩), undef, undef, undef, .bool true, .bool false, .int .i64 (k : Int), .bool false, .bool false, .int .i64 (k : Int), .bool false, .bool false, .bool false, .slice A m c, .int .i64 (m : Int), .bool false, .bool false, .int .i64 (k : Int), .int .i64 (k : Int), .bool false, u31, u32, u33, u34, u35, u36, u37, u38, u39, u40, u41, u42, u43, u44, u45, u46, u47, u48, u49, u50, u51, u52, u53, u54, u55, u56, u57, u58, u59, u60, u61, u62, u63, .func (.func 27) #[] #[.pointer (some ⟨wr.heap.size, 0, none⟩)], .int .i64 (x.2 : Int), mailV x.1 (.slice A' x.1.bs.length c'), undef, undef, undef, undef, undef, undef, undef, undef, undef, undef, undef, undef, undef, undef, undef, undef, undef, undef, undef, undef, undef, undef, undef, undef, undef, undef, undef, undef, undef, undef, undef, undef, undef, undef, undef, undef, undef, undef, undef, undef, undef, undef, undef, undef], defers := [] } ∧ Blk W b5 48 (mC x.1 (.slice A' x.1.bs.length c')).toArray ∧ W.ownsRow s 5 1 (.slice A' x.1.bs.length c') x.1.bs.length (x.1.bs.map bv) ∧ s ≤ b5 ∧ ∀ i, A' = some ⟨i, 0, none⟩ → i < b5)
              (fun x o s a' W l b b' _ h1 h2 h3 => by
                obtain ⟨A', c', b5, q1, q2, q3, q4⟩ := h3
                exact ⟨A', c', b5, q1, q2.putObj b' h1 h2, own_putObj q3 b' h1 h2, q4⟩) ?assign ?body ?done ?stop
            case assign =>
              intro l' pre x s vs o W K hs1 hs2 hpre hi henc hK
              obtain ⟨u, rfl, hown, hos⟩ := henc
              obtain ⟨A', c', rfl, _⟩ := own_len hown
              have HKK := Lib.hid hK
              have HOW := Lib.hid (And.intro hown hs2)
              clear hi hK hpa hba hown hos hpre
              simp only [List.zip_toArray, List.zip_cons_cons, List.zip_nil_right, List.foldl_toArray, List.foldl_cons, List.foldl_nil, List.setIfInBounds_toArray, List.set_cons_zero, List.set_cons_succ]
              gi_wp2_with (guard_target = wpListIn _ _ _ _ _ (Oper.mk _ (.store 48 _ _) _ _ _ _ :: _) _ _; refine wpListIn_store_arr (fun _ => trivial) rfl 48 _ _ rfl W.heap.size (mC x.1 (.slice A' x.1.bs.length c')).toArray rfl rfl 48 _ (heap_alloc_new W _) (by kernel_rfl) rfl (mail_all rfl) ?_; rw [World.setRow_alloc_new])
              have hb : Below W.heap.size W (W.alloc (.cells (mC x.1 (.slice A' x.1.bs.length c')).toArray 48)) := (Below.refl _ _).alloc (Nat.le_refl _) _
              exact HKK.out _ _ (keepsFrom_of_below hb) hb ⟨A', c', W.heap.size, rfl, Blk.newAt _ _ rfl rfl, ownsRow_kept HOW.out.1 hb, HOW.out.2, fun i hi => (HOW.out.1.lt i (own_block_of hi)).2⟩
            case body =>
              rintro l' pre x o s a' W hl hlt hs1 hs2 hpre ⟨_, rfl, hpo, hbo, hno⟩ ⟨A', c', b5, rfl, hk5, hown, hs5, hi5⟩
              have hxl : x.1.bs = bs := HY.out.2.2.1 x.1 (by
                have h : x ∈ l.zipIdx := hpre.subset (by simp)
                exact List.mem_of_getElem? (List.mem_zipIdx_iff_getElem?.1 h))
              have hmm : x.1.bs.length = m := by rw [hxl, HM.out]
              rw [hmm] at hk5 hown
              rw [hmm]
              have c4 : W.cell? ⟨b5, 4, none⟩ = some (.slice A' m c') := hk5.cell 4
              have HOWN := Lib.hid hown
              have HI5 := Lib.hid hi5
              have HPO := Lib.hid (And.intro hpo (And.intro hbo (And.intro hs1 hs2)))
              have HINC := Lib.hid (And.intro (inc_start hown) c4)
              have HKF : Hid (∀ wx, IncRel W wx A' m → KeepsFrom Wa.heap.size W wx) := Lib.hid fun wx hi => ⟨hi.2.size, fun b ob _ hb2 hb3 => (hi.2.block b (Array.getElem?_eq_some_iff.1 hb2).1 (fun he => by
                rcases hown.2 with ⟨hv, _⟩ | ⟨b', cap, cur, hv, _, q3, _⟩
                · have e0 := (Value.slice.inj hv).1
                  rw [e0] at he
                  cases he
                · have e0 := (Value.slice.inj hv).1
                  rw [he] at e0
                  injection e0 with e0
                  injection e0 with e0 _ _
                  subst e0
                  rw [q3] at hb2
                  cases hb2
                  cases hb3)).trans hb2⟩
              clear hpo hbo hno hown hi5 hk5 hpre hs1 hs2 hs5 hpa hba hYa hxl hmm
              gi_wp2
              gi_loopw [70] (fun i wx => ∃ q : Nat, q ≤ m ∧ i = .int .i64 (q : Int) ∧ IncRel W wx A' m ∧ wx.cell? ⟨b5, 4, none⟩ = some (.slice A' m c')) (fun i _ => m - (intOf i).toNat)
              case atStart => exact ⟨0, Nat.zero_le _, rfl, HINC.out⟩
              case round =>
                clear HINC c4
                obtain ⟨q, hq, rfl, hinc, c4⟩ := hrel
                by_cases hqm : q < m
                · obtain ⟨G, rfl⟩ := own_addr HOWN.out (by omega)
                  obtain ⟨y, hcc, hff, hnext⟩ := inc_open hinc hqm
                  have HNX := Lib.hid hnext
                  have hqi : (q : Int) < (m : Int) := by omega
                  have HC4 := Lib.hid c4
                  clear hinc hnext
                  gi_wp2
                  refine ⟨⟨q + 1, by omega, by rfl, HNX.out _, ?_⟩, ?_⟩
                  · refine (World.cell?_of_block (Below.heap_setCell _ _ _ _ (fun e => ?_))).trans HC4.out
                    have := HI5.out G rfl
                    have e' : b5 = G := e
                    omega
                  · simp only [intOf]
                    omega
                · obtain rfl : q = m := by omega
                  have HI := Lib.hid hinc
                  clear hinc
                  gi_wp2
                  refine ⟨HKF.out _ HI.out, fun _ => False, rfl, trivial, HPO.out.1.turn HI.out.2 fun i hi he => ?_, below_turn HPO.out.2.1 (Nat.le_refl _) HI.out.2 fun i he => ?_, fun b hb => hb⟩
                  · have := HY.out.1 i hi
                    have := (HOWN.out.lt i (own_block_of he)).1
                    have := HPO.out.2.2.1
                    omega
                  · have := (HOWN.out.lt i (own_block_of he)).1
                    have := HPO.out.2.2.1
                    have := HL0.out.2
                    omega
            case done =>
              rintro D o W hD ⟨_, he, _⟩ hK
              have h1 := congrArg List.length he
              have h2 := HL0.out.1
              rw [List.length_zipIdx, List.length_nil] at h1
              omega
            case stop =>
              rintro D cd pre o W hD hpre hne ⟨rfl, _, hpo, hbo, hno⟩ hK
              obtain ⟨m0, l1, rfl⟩ : ∃ m0 l1, l = m0 :: l1 := List.exists_cons_of_length_pos HL0.out.1
              have HM0 : Hid (m0.bs = bs) := Lib.hid (HY.out.2.2.1 m0 (List.mem_cons_self ..))
              have hlen : (m0 :: l1).length = min k 600 := HY.out.2.2.2.1
              have hin : isAt (m0 :: l1) 0 := ⟨by omega, by rw [List.length_cons]; omega⟩
              have hat : atM (m0 :: l1) 0 = m0 := (take_head m0 l1).1
              have HP := Lib.hid hpo
              have HB := Lib.hid hbo
              have HD := Lib.hid (And.intro hK hD)
              have HGW : Hid (w.heap.size ≤ g ∧ g < Wa.heap.size) := Lib.hid ⟨HY.out.2.1 g HY.out.2.2.2.2, HY.out.1 g HY.out.2.2.2.2⟩
              by_cases h6 : k < 600
              · have hk6 : (k : Int) < 600 := by omega
                have hmin : min (k : Int) 600 = (k : Int) := by omega
                have HLEN : Hid (Calls Try.prog 16 #[.pointer (some ⟨g, 0, none⟩)] W fun e w' => e = .returned (.int .i64 (k : Int)) ∧ w' = W) := Lib.hid (by
                  have := postLen_any hpo
                  rw [hlen, show min k 600 = k by omega] at this
                  exact this)
                have HTE : Hid (twiceE (m0 :: l1) 0 = 0) := Lib.hid (by unfold twiceE putE; rw [if_pos hin, if_neg (by omega)])
                obtain ⟨l2, hl2, h2⟩ : ∃ l2, twiceM (m0 :: l1) 0 = m0 :: l2 ∧ l2.length < 600 := ⟨l1 ++ [m0], by unfold twiceM putM; rw [if_pos hin, if_neg (by omega), hat]; rfl, by
                  rw [List.length_append, List.length_singleton]
                  rw [List.length_cons] at hlen
                  omega⟩
                have htw := postTwice_any 0 hpo
                rw [HTE.out, hl2] at htw
                have HTW := Lib.hid htw
                have HPE : Hid (putE l2 = 0) := Lib.hid (if_neg (by omega))
                clear hpo hbo hno hK hD htw hlen hin hat hl2 h2 hpa hba hYa hpre hne
                refine wpIn_wide.2 ?_
                go_upto_region 27 with (first
                  | (go_at_call 16; refine HLEN.out.mono ?_; rintro e Wn ⟨rfl, rfl⟩)
                  | (go_at_call 15; refine HTW.out.mono ?_; rintro e W3 ⟨rfl, Y3, hp3, ht3, hy3⟩))
                have HP3 := Lib.hid hp3
                have HB3 := Lib.hid (below_turn HB.out (Nat.le_refl _) ht3 (fun i hi => by rw [hi]; exact HGW.out.1))
                have HD3 : Hid (W3.heap[D]? = some (.deferred (some []))) := Lib.hid ((ht3.block D (Array.getElem?_eq_some_iff.1 HD.out.1).1 (fun e => by have := HGW.out.2; have := HD.out.2; omega)).trans HD.out.1)
                clear hp3 ht3 hy3
                have htk := postTake_any 0 HP3.out
                rw [(take_head m0 l2).1, (take_head m0 l2).2.1, (take_head m0 l2).2.2] at htk
                have HTK := Lib.hid htk
                have hnq := eql_sameS bs
                clear htk
                go_upto_region 28 with (first
                  | (go_at_call 13; refine HTK.out.mono ?_; rintro e W4 ⟨u, rfl, hr4, Y4, hp4, ht4, hy4⟩; obtain ⟨A', c', rfl⟩ := hr4.shape; have HRB := Lib.hid hr4; have HP4 := Lib.hid (And.intro hp4 (And.intro ht4 hy4)); clear hp4 ht4 hy4 hr4)
                  | (guard_target = wpList _ _ _ (Oper.mk _ (.store 48 _ _) _ _ _ _ :: _) _ _; refine wpList_store_row rfl 48 _ _ rfl W4.heap.size (mC m0 (.slice A' m0.bs.length c')).toArray rfl rfl 48 _ (heap_alloc_new W4 _) (by kernel_rfl) rfl (mail_all rfl) ?_; rw [World.setRow_alloc_new]))
                obtain ⟨W5, hW5⟩ : ∃ W5, W4.alloc (.cells (mC m0 (.slice A' m0.bs.length c')).toArray 48) = W5 := ⟨_, rfl⟩
                rw [hW5]
                have hb5 : Below W4.heap.size W4 W5 := by rw [← hW5]; exact (Below.refl _ _).alloc (Nat.le_refl _) _
                have hk5 : Blk W5 W4.heap.size 48 (mC m0 (.slice A' m0.bs.length c')).toArray := by rw [← hW5]; exact Blk.newAt _ _ rfl rfl
                have m4 : W5.cell? ⟨W4.heap.size, 4, none⟩ = some (.slice A' m0.bs.length c') := hk5.cell 4
                have hr5 := HRB.out.kept (W' := W5) fun a x ha hx => (hb5.cell (p := a) ha.2).trans hx
                have hcv := str_rd hr5
                rw [show (⟨m0.bs.toArray⟩ : ByteArray) = ⟨bs.toArray⟩ by rw [HM0.out]] at hcv
                have hb05 := (below_turn HB3.out (Nat.le_refl _) HP4.out.2.1 (fun i hi => by rw [hi]; exact HGW.out.1)).trans (hb5.mono (below_turn HB3.out (Nat.le_refl _) HP4.out.2.1 (fun i hi => by rw [hi]; exact HGW.out.1)).size)
                have hcw := str_rd (HR'.out.kept (W' := W5) fun a x ha h => (hb05.cell (p := a) ha).trans h)
                have hpu := postPut_any (m := m0) (HP4.out.1.below hb5) (hr5.mono (ok' := fun b => b < W5.heap.size) fun b hb => Nat.lt_of_lt_of_le hb.2 hb5.size)
                rw [HPE.out] at hpu
                have HPU := Lib.hid hpu
                have HD5 : Hid (W5.heap[D]? = some (.deferred (some []))) := Lib.hid (by
                  have h4 := (HP4.out.2.1.block D (Array.getElem?_eq_some_iff.1 HD3.out).1 (fun e => by have := HGW.out.2; have := HD.out.2; omega)).trans HD3.out
                  exact (hb5.block D (Array.getElem?_eq_some_iff.1 h4).1).trans h4)
                have HB5 := Lib.hid hb05
                have HK5 := Lib.hid (run_load_el W5 48 _ Try.underlying48 rfl ⟨W4.heap.size, 0, none⟩ (mC m0 (.slice A' m0.bs.length c')) mail_info fun i hi => by rw [add_zero_block, hk5.cell, List.getElem?_toArray])
                clear hW5 hb5 hk5 hr5 hb05 hpu
                go_wp2_with (first
                  | (guard_target = wpList _ _ _ (Oper.mk _ (.load 48 _) _ _ _ _ :: _) _ _; refine wpList_load_runT (by rfl) 48 _ rfl (.pointer (some ⟨W4.heap.size, 0, none⟩)) (mailV m0 (.slice A' m0.bs.length c')) rfl HK5.out ?_)
                  | (go_at_call 11; refine HPU.out.mono ?_; rintro e W6 ⟨rfl, Y6, hp6, ht6, hy6⟩))
                have hD6 := (ht6.block D (Array.getElem?_eq_some_iff.1 HD5.out).1 (fun e => by have := HGW.out.2; have := HD.out.2; omega)).trans HD5.out
                have hb6 := below_turn HB5.out (Nat.le_refl _) ht6 (fun i hi => by rw [hi]; exact HGW.out.1)
                refine ⟨by simp, .inl ⟨_, _, rfl, run_takeDeferred hD6, ?_⟩⟩
                exact ⟨_, results_tmp rfl _ _ _, rfl, below_putObj hb6 _ (by have := HD.out.2; have := HL0.out.2; omega)⟩
              · have hk6 : ¬ (k : Int) < 600 := by omega
                have hmin : min (k : Int) 600 = 600 := by omega
                have HLEN : Hid (Calls Try.prog 16 #[.pointer (some ⟨g, 0, none⟩)] W fun e w' => e = .returned (.int .i64 600) ∧ w' = W) := Lib.hid (by
                  have := postLen_any hpo
                  rw [hlen, show min k 600 = 600 by omega] at this
                  exact this)
                have HTE : Hid (twiceE (m0 :: l1) 0 = 3) := Lib.hid (by unfold twiceE putE; rw [if_pos hin, if_pos (by omega)])
                obtain ⟨l2, hl2, h2⟩ : ∃ l2, twiceM (m0 :: l1) 0 = m0 :: l2 ∧ l2.length < 600 := ⟨l1, by unfold twiceM putM; rw [if_pos hin, if_pos (by omega)], by
                  rw [List.length_cons] at hlen
                  omega⟩
                have htw := postTwice_any 0 hpo
                rw [HTE.out, hl2] at htw
                have HTW := Lib.hid htw
                have HPE : Hid (putE l2 = 0) := Lib.hid (if_neg (by omega))
                clear hpo hbo hno hK hD htw hlen hin hat hl2 h2 hpa hba hYa hpre hne
                refine wpIn_wide.2 ?_
                go_upto_region 27 with (first
                  | (go_at_call 16; refine HLEN.out.mono ?_; rintro e Wn ⟨rfl, rfl⟩)
                  | (go_at_call 15; refine HTW.out.mono ?_; rintro e W3 ⟨rfl, Y3, hp3, ht3, hy3⟩))
                have HP3 := Lib.hid hp3
                have HB3 := Lib.hid (below_turn HB.out (Nat.le_refl _) ht3 (fun i hi => by rw [hi]; exact HGW.out.1))
                have HD3 : Hid (W3.heap[D]? = some (.deferred (some []))) := Lib.hid ((ht3.block D (Array.getElem?_eq_some_iff.1 HD.out.1).1 (fun e => by have := HGW.out.2; have := HD.out.2; omega)).trans HD.out.1)
                clear hp3 ht3 hy3
                have htk := postTake_any 0 HP3.out
                rw [(take_head m0 l2).1, (take_head m0 l2).2.1, (take_head m0 l2).2.2] at htk
                have HTK := Lib.hid htk
                have hnq := eql_sameS bs
                clear htk
                go_upto_region 28 with (first
                  | (go_at_call 13; refine HTK.out.mono ?_; rintro e W4 ⟨u, rfl, hr4, Y4, hp4, ht4, hy4⟩; obtain ⟨A', c', rfl⟩ := hr4.shape; have HRB := Lib.hid hr4; have HP4 := Lib.hid (And.intro hp4 (And.intro ht4 hy4)); clear hp4 ht4 hy4 hr4)
                  | (guard_target = wpList _ _ _ (Oper.mk _ (.store 48 _ _) _ _ _ _ :: _) _ _; refine wpList_store_row rfl 48 _ _ rfl W4.heap.size (mC m0 (.slice A' m0.bs.length c')).toArray rfl rfl 48 _ (heap_alloc_new W4 _) (by kernel_rfl) rfl (mail_all rfl) ?_; rw [World.setRow_alloc_new]))
                obtain ⟨W5, hW5⟩ : ∃ W5, W4.alloc (.cells (mC m0 (.slice A' m0.bs.length c')).toArray 48) = W5 := ⟨_, rfl⟩
                rw [hW5]
                have hb5 : Below W4.heap.size W4 W5 := by rw [← hW5]; exact (Below.refl _ _).alloc (Nat.le_refl _) _
                have hk5 : Blk W5 W4.heap.size 48 (mC m0 (.slice A' m0.bs.length c')).toArray := by rw [← hW5]; exact Blk.newAt _ _ rfl rfl
                have m4 : W5.cell? ⟨W4.heap.size, 4, none⟩ = some (.slice A' m0.bs.length c') := hk5.cell 4
                have hr5 := HRB.out.kept (W' := W5) fun a x ha hx => (hb5.cell (p := a) ha.2).trans hx
                have hcv := str_rd hr5
                rw [show (⟨m0.bs.toArray⟩ : ByteArray) = ⟨bs.toArray⟩ by rw [HM0.out]] at hcv
                have hb05 := (below_turn HB3.out (Nat.le_refl _) HP4.out.2.1 (fun i hi => by rw [hi]; exact HGW.out.1)).trans (hb5.mono (below_turn HB3.out (Nat.le_refl _) HP4.out.2.1 (fun i hi => by rw [hi]; exact HGW.out.1)).size)
                have hcw := str_rd (HR'.out.kept (W' := W5) fun a x ha h => (hb05.cell (p := a) ha).trans h)
                have hpu := postPut_any (m := m0) (HP4.out.1.below hb5) (hr5.mono (ok' := fun b => b < W5.heap.size) fun b hb => Nat.lt_of_lt_of_le hb.2 hb5.size)
                rw [HPE.out] at hpu
                have HPU := Lib.hid hpu
                have HD5 : Hid (W5.heap[D]? = some (.deferred (some []))) := Lib.hid (by
                  have h4 := (HP4.out.2.1.block D (Array.getElem?_eq_some_iff.1 HD3.out).1 (fun e => by have := HGW.out.2; have := HD.out.2; omega)).trans HD3.out
                  exact (hb5.block D (Array.getElem?_eq_some_iff.1 h4).1).trans h4)
                have HB5 := Lib.hid hb05
                have HK5 := Lib.hid (run_load_el W5 48 _ Try.underlying48 rfl ⟨W4.heap.size, 0, none⟩ (mC m0 (.slice A' m0.bs.length c')) mail_info fun i hi => by rw [add_zero_block, hk5.cell, List.getElem?_toArray])
                clear hW5 hb5 hk5 hr5 hb05 hpu
                go_wp2_with (first
                  | (guard_target = wpList _ _ _ (Oper.mk _ (.load 48 _) _ _ _ _ :: _) _ _; refine wpList_load_runT (by rfl) 48 _ rfl (.pointer (some ⟨W4.heap.size, 0, none⟩)) (mailV m0 (.slice A' m0.bs.length c')) rfl HK5.out ?_)
                  | (go_at_call 11; refine HPU.out.mono ?_; rintro e W6 ⟨rfl, Y6, hp6, ht6, hy6⟩))
                have hD6 := (ht6.block D (Array.getElem?_eq_some_iff.1 HD5.out).1 (fun e => by have := HGW.out.2; have := HD.out.2; omega)).trans HD5.out
                have hb6 := below_turn HB5.out (Nat.le_refl _) ht6 (fun i hi => by rw [hi]; exact HGW.out.1)
                refine ⟨by simp, .inl ⟨_, _, rfl, run_takeDeferred hD6, ?_⟩⟩
                exact ⟨_, results_tmp rfl _ _ _, rfl, below_putObj hb6 _ (by have := HD.out.2; have := HL0.out.2; omega)⟩
end Go.Proofs.Ytplcanoihojnpaa
