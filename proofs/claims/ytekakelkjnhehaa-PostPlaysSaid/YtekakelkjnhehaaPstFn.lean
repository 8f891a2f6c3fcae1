/-
  Layer 21: the post's small functions. In whatever memory. No condition.
-/
import Derived.Test.YtekakelkjnhehaaPstKit
namespace Go.Proofs.Ytekakelkjnhehaa
open Go Go.RowKit

theorem mail_end {F : Func} {p q : Tmp} (hF : F.results = #[.cell p 48, .tmp q]) {R : Ending → World → Prop} {a : Act} {w : World} (g : Nat) (m : MailS) (u : Value) (hp : a.tmps.getD p undef = .pointer (some ⟨g, 0, none⟩)) (hg : Blk w g 48 (mC m u).toArray) (hd : a.defers = [])
    (hR : R (.returned (.tuple #[mailV m u, a.tmps.getD q undef])) w) : bodyPost Try.prog F R .ret a w :=
  bodyPost_ret (results_cell_tmp (p := p) (q := q) hF _ _ g _ _ _ hp hg Try.underlying48 rfl (by kernel_rfl)) hd hR
theorem mail_end1 {F : Func} {p : Tmp} (hF : F.results = #[.cell p 48]) {R : Ending → World → Prop} {a : Act} {w : World} (g : Nat) (m : MailS) (u : Value) (hp : a.tmps.getD p undef = .pointer (some ⟨g, 0, none⟩)) (hg : Blk w g 48 (mC m u).toArray) (hd : a.defers = [])
    (hR : R (.returned (mailV m u)) w) : bodyPost Try.prog F R .ret a w :=
  bodyPost_ret (results_cell_row (p := p) hF _ _ g _ _ (0, 0) _ hp hg Try.underlying48 rfl (by kernel_rfl)) hd hR
theorem mail_cells {W : World} {g : Nat} {m : MailS} {u : Value} (h : Blk W g 48 (mC m u).toArray) : W.cell? ⟨g, 4, none⟩ = some u ∧ W.frozen? ⟨g, 4, none⟩ = false := ⟨h.cell 4, h.frozen 4⟩
theorem mail_put {W : World} {g : Nat} {m : MailS} {u u' : Value} (h : Blk W g 48 (mC m u).toArray) : Blk (W.setCell ⟨g, 4, none⟩ u') g 48 (mC m u').toArray := h.store 4 u'
theorem mail_all {m : MailS} {u : Value} (hu : u.oneCell' = true) : (mC m u).toArray.all (·.oneCell') = true := by
  rw [Array.all_eq_true_iff_forall_mem]
  intro x hx
  simp only [mC, List.mem_toArray, List.mem_cons, List.not_mem_nil, or_false] at hx
  rcases hx with rfl | rfl | rfl | rfl | rfl
  · rfl
  · rfl
  · rfl
  · rfl
  · exact hu
def zeroM : MailS := ⟨false, 0, false, 0, []⟩
theorem own_base {B B' k n : Nat} {e : TypeId} {v : Value} {xs : List Value} {w : World} (h : w.ownsRow B e k v n xs) (hB : B' ≤ B) : w.ownsRow B' e k v n xs := by
  refine ⟨h.1, ?_⟩
  rcases h.2 with h0 | ⟨g, cap, cur, h1, h2, h3⟩
  · exact .inl h0
  · exact .inr ⟨g, cap, cur, h1, Nat.le_trans hB h2, h3⟩
set_option maxRecDepth 100000 in
set_option maxHeartbeats 1000000 in
theorem cloneO_any (A : Option Addr) (c : Nat) (bs : List UInt8) (w : World) (hr : RdB w (fun b => b < w.heap.size) (.slice A bs.length c) bs) :
    Calls Try.prog 36 #[.slice A bs.length c] w fun e w' => ∃ A' c', e = .returned (.slice A' bs.length c') ∧ w'.ownsRow w.heap.size 5 1 (.slice A' bs.length c') bs.length (bs.map bv) ∧ Below w.heap.size w w' := by
  cases A with
  | none =>
    have hn : bs = [] := by
      rcases Nat.eq_zero_or_pos bs.length with h | h
      · exact List.eq_nil_of_length_eq_zero h
      · obtain ⟨A', c', hv, h1, h2, h3⟩ := hr
        injection hv with e1 e2 e3
        subst e1
        obtain ⟨_, h, _⟩ := h3 h
        cases h
    subst hn
    have heq : ∀ w', (binOp .eql 32 (.slice none 0 c) (.slice none 0 0)).run Try.prog w' = .ok (.bool true) w' := fun w' => Lib.run_eql_slice_nil w' 32 5 none 0 c 0 0 Try.underlying32
    go_enter Try.func36, Try.ntmps36
    go_wp2
    go_ret
    exact ⟨none, 0, rfl, World.ownsRow_nil _ _ _ _, Below.refl _ _⟩
  | some ad =>
    have heq : ∀ w', (binOp .eql 32 (.slice (some ad) bs.length c) (.slice none 0 0)).run Try.prog w' = .ok (.bool false) w' := fun w' => Lib.run_eql_slice_nil w' 32 5 (some ad) bs.length c 0 0 Try.underlying32
    have hl : bs.length ≤ 140737488351232 := by
      obtain ⟨A', c', hv, h1, h2, h3⟩ := hr
      exact h2
    have hb0 : Below w.heap.size w (w.alloc (.cells #[] 5)) := (Below.refl _ _).alloc (Nat.le_refl _) _
    have own0 : (w.alloc (.cells #[] 5)).ownsRow w.heap.size 5 1 (.slice (some ⟨w.heap.size, 0, none⟩) 0 0) 0 (([] : List UInt8).map bv) := ⟨rfl, .inr ⟨w.heap.size, 0, #[], rfl, Nat.le_refl _, heap_alloc_new w _, Nat.le_refl _, by unfold maxLen; omega, rfl, rfl⟩⟩
    obtain ⟨i0, hi, hz0, hz1, hz2⟩ := info_parts info_u8
    obtain ⟨v', w', hrun, hown', hgr, _⟩ := run_append_rd (P := Try.prog) (w.alloc (.cells #[] 5)) w.heap.size 32 32 5 i0 (.int .u8 0) Try.underlying32 hi hz0 hz1 hz2 rfl _ 0 _ own0 _ (some ad) bs.length c bs (hr.kept fun a x ha h => (hb0.cell (p := a) ha).trans h) (by omega) (by simp)
    rw [List.map_nil, List.nil_append, Nat.zero_add] at hown'
    have hb : Below w.heap.size w w' := hb0.grown hgr (by simp) fun k hk => by
      simp only [Value.ownBlock, Option.some.injEq] at hk
      omega
    obtain ⟨A', c', rfl⟩ : ∃ A' c', v' = .slice A' bs.length c' := by
      rcases ownsRow_forms' hown' with ⟨rfl, h0⟩ | ⟨g, cap, rfl⟩
      · exact ⟨none, 0, by rw [h0]⟩
      · exact ⟨_, _, rfl⟩
    have HR := Lib.hid hrun
    have HB := Lib.hid hb
    have HRD := Lib.hid hown'
    clear hrun hb hown' hgr own0 hb0 hi hz0 hz1 hz2 hr hl
    go_enter Try.func36, Try.ntmps36
    go_wp2_with (at_builtin; refine wpList_append_run rfl (.tmp 5) (.tmp 6) _ _ rfl _ _ rfl rfl _ _ HR.out ?_)
    go_ret
    exact ⟨A', c', rfl, HRD.out, HB.out⟩
set_option maxRecDepth 100000 in
set_option maxHeartbeats 1000000 in
/-- The same message in memory of its own. -/
theorem mailApartO_any (m : MailS) (u : Value) (w : World) (hr : RdB w (fun b => b < w.heap.size) u m.bs) :
    Calls Try.prog 25 #[mailV m u] w fun e w' => ∃ u', e = .returned (mailV m u') ∧ w'.ownsRow w.heap.size 5 1 u' m.bs.length (m.bs.map bv) ∧ Below w.heap.size w w' := by
  obtain ⟨A, c, rfl⟩ := hr.shape
  have HR := Lib.hid hr
  clear hr
  obtain ⟨n, hn⟩ : ∃ n, m.bs.length = n := ⟨_, rfl⟩
  rw [hn] at HR ⊢
  have HN := Lib.hid hn
  clear hn
  go_enter Try.func25, Try.ntmps25
  go_upto_region 1 with fail
  generalize hW : World.alloc (World.alloc w _) _ = W
  have hp : Blk W w.heap.size 48 (mC m (.slice A n c)).toArray := by rw [← hW]; exact (Blk.newAt _ _ rfl rfl).alloc _
  have hz : Blk W (w.heap.size + 1) 48 (mC zeroM (.slice none 0 0)).toArray := by rw [← hW]; exact Blk.newAt _ _ (by simp) rfl
  have hb : Below w.heap.size w W := by rw [← hW]; exact b2 _ _ _ _ _
  have HC : Hid (Calls Try.prog 36 #[.slice A n c] W fun e w' => ∃ A' c', e = .returned (.slice A' n c') ∧ w'.ownsRow W.heap.size 5 1 (.slice A' n c') n (m.bs.map bv) ∧ Below W.heap.size W w') := Lib.hid (by
    have h := cloneO_any A c m.bs W ((by rw [HN.out]; exact (HR.out.kept fun a x ha h => (hb.cell (p := a) ha).trans h).mono fun b h => Nat.lt_of_lt_of_le h hb.size))
    rw [HN.out] at h
    exact h)
  have HB := Lib.hid hb
  have HS2 : Hid (w.heap.size + 2 ≤ W.heap.size) := Lib.hid (by rw [← hW]; simp)
  have HP := Lib.hid hp
  have HZ := Lib.hid hz
  obtain ⟨c4, f4⟩ := mail_cells hp
  clear hW hp hz hb
  go_wp2_with fail
  refine HC.out.mono ?_
  rintro e W1 ⟨A', c', rfl, hr1, hb1⟩
  have hp1 := HP.out.below hb1 HP.out.lt
  have hz1 := HZ.out.below hb1 HZ.out.lt
  obtain ⟨c5, f5⟩ := mail_cells hp1
  have HU := Lib.hid (mail_put (u' := .slice A' n c') hp1)
  have HZ1 := Lib.hid (hz1.far (p := ⟨w.heap.size, 4, none⟩) (by simp) (.slice A' n c'))
  have HB1 := Lib.hid (HB.out.trans (hb1.mono HB.out.size))
  have HR1 := Lib.hid hr1
  clear hp1 hz1 hr1 hb1 c4 f4 HC
  dsimp only
  go_wp2_with (first
    | (refine wpList_load_row rfl 48 _ rfl w.heap.size rfl 48 _ (0, 0) _ HU.out Try.underlying48 rfl (by kernel_rfl) ?_)
    | (refine wpList_store_row rfl 48 _ _ rfl (w.heap.size + 1) (mC m (.slice A' n c')).toArray rfl rfl 48 _ HZ1.out (by kernel_rfl) rfl (mail_all rfl) ?_))
  refine mail_end1 rfl (w.heap.size + 1) m (.slice A' n c') rfl (HZ1.out.setRow _) rfl ⟨_, rfl, ?_, below_setRow (HB1.out.setCell (p := ⟨w.heap.size, 4, none⟩) (Nat.le_refl _) _) (by omega) _⟩
  have hs1 := HB1.out.size
  have hW2 := HS2.out
  have ht : Turn (fun i => i = w.heap.size ∨ i = w.heap.size + 1) W1 ((W1.setCell ⟨w.heap.size, 4, none⟩ (.slice A' n c')).setRow (w.heap.size + 1) (mC m (.slice A' n c')).toArray) := ((Turn.refl _ W1).setCell (p := ⟨w.heap.size, 4, none⟩) (fun _ => .inl rfl) _).setRow (fun _ => .inr rfl) _
  exact own_base (ht.own HR1.out fun b hb h => by have := (HR1.out.lt b hb).1; rcases h with h | h <;> omega) (by omega)
set_option maxRecDepth 100000 in
theorem mailApart_any (m : MailS) (u : Value) (w : World) (hr : RdB w (fun b => b < w.heap.size) u m.bs) :
    Calls Try.prog 25 #[mailV m u] w fun e w' => ∃ u', e = .returned (mailV m u') ∧ RdB w' (fun b => w.heap.size ≤ b ∧ b < w'.heap.size) u' m.bs ∧ Below w.heap.size w w' := by
  have hl : m.bs.length ≤ 140737488351232 := by
    obtain ⟨_, _, _, _, h, _⟩ := hr
    exact h
  refine (mailApartO_any m u w hr).mono ?_
  rintro e w' ⟨u', he, ho, hb⟩
  exact ⟨u', he, rdB_own ho rfl hl, hb⟩
set_option maxRecDepth 100000 in
set_option maxHeartbeats 1000000 in
theorem postLen_any {Y : Nat → Prop} {g : Nat} {l : List MailS} {w : World} (h : PostAt w Y g l) : Calls Try.prog 16 #[.pointer (some ⟨g, 0, none⟩)] w fun e w' => e = .returned (.int .i64 (l.length : Int)) ∧ w' = w := by
  obtain ⟨v, h1, h2, h3, h4, h5⟩ := h
  obtain ⟨A, c, rfl, hc⟩ := h2.form
  have c0 := h1.cell 0
  simp at c0
  clear h1 h2
  go_enter Try.func16, Try.ntmps16
  go_wp2
  go_ret
  exact ⟨rfl, rfl⟩
/-- Which one is meant; the zero one, if there is none. -/
def isAt (l : List MailS) (i : Int) : Prop := 0 ≤ i ∧ i < (l.length : Int)
instance (l : List MailS) (i : Int) : Decidable (isAt l i) := inferInstanceAs (Decidable (_ ∧ _))
def atM (l : List MailS) (i : Int) : MailS := if isAt l i then l.getD i.toNat zeroM else zeroM
def codeM (l : List MailS) (i : Int) : Int := if isAt l i then 0 else 4
theorem index_mail (ad : Addr) (n c i : Nat) (hi : i < n) (w : World) : (Instr.indexAt 24 (.slice (some ad) n c) (.int .i64 (i : Int))).run Try.prog w = .ok (.pointer (some (ad.add (i * 5)))) w := by
  have hk1 : (i : Int) < (n : Int) := by omega
  have hsz : (sizeOf 48).run Try.prog w = .ok 5 w := by kernel_rfl
  simp [Instr.indexAt, asIntOf, Sem.run_bind, run_underlying Try.underlying24]
  intro hh
  omega
set_option maxRecDepth 100000 in
set_option maxHeartbeats 1000000 in
theorem postAt_any {Y : Nat → Prop} {g : Nat} {l : List MailS} (i : Int) {w : World} (h : PostAt w Y g l) : Calls Try.prog 26 #[.pointer (some ⟨g, 0, none⟩), .int .i64 i] w fun e w' => ∃ u, e = .returned (.tuple #[mailV (atM l i) u, .int .i64 (codeM l i)]) ∧ RdB w' (fun b => w.heap.size ≤ b ∧ b < w'.heap.size) u (atM l i).bs ∧ Below w.heap.size w w' := by
  have HL := Lib.hid (fun w' (hb : Below w.heap.size w w') => postLen_any (h.below hb))
  by_cases h0 : i < 0
  · have e1 : decide (i < 0) = true := decide_eq_true h0
    have hn : ¬ isAt l i := fun h => by have := h.1; omega
    have HE : Hid (atM l i = zeroM ∧ codeM l i = 4) := Lib.hid ⟨if_neg hn, if_neg hn⟩
    rw [HE.out.1, HE.out.2]
    clear h hn
    go_enter Try.func26, Try.ntmps26
    go_wp2
    exact mail_end rfl w.heap.size zeroM (.slice none 0 0) rfl (Blk.newAt _ _ rfl rfl) rfl ⟨_, rfl, ⟨none, 0, rfl, Nat.le_refl _, by simp [zeroM], fun h => absurd h (by simp [zeroM])⟩, (Below.refl _ _).alloc (Nat.le_refl _) _⟩
  · have e1 : decide (i < 0) = false := decide_eq_false h0
    obtain ⟨k, rfl⟩ : ∃ k : Nat, i = (k : Int) := ⟨i.toNat, by omega⟩
    by_cases hk : k < l.length
    · obtain ⟨m, hm⟩ : ∃ m, l[k]? = some m := ⟨_, List.getElem?_eq_getElem hk⟩
      have HE : Hid (atM l (k : Int) = m ∧ codeM l (k : Int) = 0) := Lib.hid (by
        have hy : isAt l (k : Int) := ⟨by omega, by omega⟩
        refine ⟨?_, if_pos hy⟩
        unfold atM
        rw [if_pos hy, Int.toNat_natCast, List.getD_eq_getElem?_getD, hm]
        rfl)
      rw [HE.out.1, HE.out.2]
      obtain ⟨v, h1, h2, h3, h4, h5⟩ := h
      obtain ⟨ad, c, u, rfl, hok, hu, hld⟩ := h2.here hm
      obtain ⟨n, hn⟩ : ∃ n, l.length = n := ⟨_, rfl⟩
      rw [hn] at hk HL h1 h2
      have hge : ¬ n ≤ k := by omega
      have hkn : (k : Int) < (n : Int) := by omega
      have HK1 := Lib.hid h1
      have HLD := Lib.hid (fun W' (hb : Below w.heap.size w W') => hld W' fun a x ha hx => (hb.cell (p := a) (h4 _ ha.1)).trans hx)
      have HU := Lib.hid (hu.mono (ok' := fun b => b < w.heap.size) fun b hb => h4 b hb.1)
      have hix := fun w' => index_mail ad n c k hk w'
      clear h1 h2 h3 h4 h5 hu hok hld hm hn
      go_enter Try.func26, Try.ntmps26
      go_upto_region 1 with fail
      generalize hW : World.alloc w _ = W
      have hz : Blk W w.heap.size 48 (mC zeroM (.slice none 0 0)).toArray := by rw [← hW]; exact Blk.newAt _ _ rfl rfl
      have hb : Below w.heap.size w W := by rw [← hW]; exact (Below.refl _ _).alloc (Nat.le_refl _) _
      have HS : Hid (w.heap.size + 1 = W.heap.size) := Lib.hid (by rw [← hW]; simp)
      have c0 := (HK1.out.below hb HK1.out.lt).cell 0
      simp at c0
      have HA := Lib.hid (mailApart_any m u W ((HU.out.kept fun a x ha h => (hb.cell (p := a) ha).trans h).mono fun b h => Nat.lt_of_lt_of_le h hb.size))
      have HLW := Lib.hid (HLD.out W hb)
      have HZ := Lib.hid hz
      have HB := Lib.hid hb
      clear hW hz hb
      go_wp2_with (first
        | (go_at_call 16; refine (HL.out _ HB.out).mono ?_; rintro e Wn ⟨rfl, rfl⟩)
        | (guard_target = wpList _ _ _ (Oper.mk _ (.load 48 _) _ _ _ _ :: _) _ _; refine wpList_load_runT (by rfl) 48 _ rfl (.pointer (some (ad.add (k * 5)))) (mailV m u) rfl HLW.out ?_)
        | (go_at_call 25; refine HA.out.mono ?_; rintro e W2 ⟨u', rfl, hr2, hb2⟩; have hz2 := HZ.out.below hb2 HZ.out.lt; obtain ⟨A', c', rfl⟩ := hr2.shape; have HR2 := Lib.hid hr2; have HB2 := Lib.hid hb2; clear hr2 hb2)
        | (guard_target = wpList _ _ _ (Oper.mk _ (.store 48 _ _) _ _ _ _ :: _) _ _; refine wpList_store_row rfl 48 _ _ rfl w.heap.size (mC m (.slice A' m.bs.length c')).toArray rfl rfl 48 _ hz2 (by kernel_rfl) rfl (mail_all rfl) ?_))
      have hs := HS.out
      have ht : Turn (fun i => i = w.heap.size) W2 (W2.setRow w.heap.size (mC m (.slice A' m.bs.length c')).toArray) := Turn.setRow (S := fun i => i = w.heap.size) (Turn.refl _ W2) (fun _ => rfl) _
      exact mail_end rfl w.heap.size m _ rfl (hz2.setRow _) rfl ⟨_, rfl, (HR2.out.turn ht fun b hb h => by omega).mono fun b hb => ⟨by omega, Nat.lt_of_lt_of_le hb.2 ht.size⟩, below_setRow (HB.out.trans (HB2.out.mono HB.out.size)) (Nat.le_refl _) _⟩
    · have hge : l.length ≤ k := by omega
      have hn : ¬ isAt l (k : Int) := fun h => by have := h.2; omega
      have HE : Hid (atM l (k : Int) = zeroM ∧ codeM l (k : Int) = 4) := Lib.hid ⟨if_neg hn, if_neg hn⟩
      rw [HE.out.1, HE.out.2]
      clear h hn
      go_enter Try.func26, Try.ntmps26
      go_wp2_with (go_at_call 16; refine (HL.out _ ((Below.refl _ _).alloc (Nat.le_refl _) _)).mono ?_; rintro e Wn ⟨rfl, rfl⟩)
      exact mail_end rfl w.heap.size zeroM (.slice none 0 0) rfl (Blk.newAt _ _ rfl rfl) rfl ⟨_, rfl, ⟨none, 0, rfl, Nat.le_refl _, by simp [zeroM], fun h => absurd h (by simp [zeroM])⟩, (Below.refl _ _).alloc (Nat.le_refl _) _⟩
end Go.Proofs.Ytekakelkjnhehaa
