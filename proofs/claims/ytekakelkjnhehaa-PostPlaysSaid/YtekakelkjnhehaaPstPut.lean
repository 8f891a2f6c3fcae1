/-
  Layer 21: Put, Take, Twice. In whatever memory. No condition.
-/
import Derived.Test.YtekakelkjnhehaaPstGo
import Derived.Deep.RegionHeld3
import Derived.Laws.Tables
import Derived.Great.BuildSlice
import Derived.Great.Walk
namespace Go.Proofs.Ytekakelkjnhehaa
open Go Go.RowKit

theorem yieldsIf_load_blk {P : Program} {ops : Array Oper} {S : World → Prop} {op : Oper} {a : Act} (hw : Region.wanted op (yielded ops a.tmps) = true) (ty : TypeId) (x : Operand) (ho : op.op = .load ty x)
    (g : Nat) (hx : a.eval x = .pointer (some ⟨g, 0, none⟩)) (t : TypeId) (cs : Array Value) (d : TypeDesc) (hS : ∀ w, S w → Blk w g t cs)
    (hu : P.underlying ty = some d) (hd : d.isRow = true) (hi : (P.info? ty).map (·.size) = some cs.size) : YieldsIf P ops S op (.agg cs) a := by
  have := yieldsIf_load_mid (S := S) hw ty x ho g 0 hx cs.toList d (fun w h => by
    refine fun j v hv => ?_
    rw [Array.getElem?_toList] at hv
    rw [Nat.zero_add, (hS w h).cell]
    exact hv) hu hd (by simpa using hi)
  rw [Array.toArray_toList] at this
  exact this
theorem mail_fill (m : MailS) (u : Value) : Try.prog.builtSlice 48 1 [(0, mailV m u)] = some (mC m u).toArray := by kernel_rfl
theorem run_build_mail (m : MailS) (u : Value) (w : World) : (Instr.buildSlice 24 1 #[(0, mailV m u)]).run Try.prog w = .ok (.slice (some ⟨w.heap.size, 0, none⟩) 1 1) (w.alloc (.cells (mC m u).toArray 48)) := by
  have hf := mail_fill m u
  unfold Program.builtSlice at hf
  cases hie : Try.prog.info? 48 with
  | none => simp [hie] at hf
  | some ie =>
    simp only [hie] at hf
    cases hz : ie.zero with
    | none => simp [hz] at hf
    | some z =>
      simp only [hz] at hf
      by_cases hc : 1 * ie.size > 2 ^ 24 ∨ 1 * ie.size = 0
      · rw [if_pos hc] at hf
        cases hf
      · rw [if_neg hc] at hf
        exact run_buildSlice w 24 48 1 #[(0, mailV m u)] _ ie z Try.underlying24 hie hz (fun h' => hc (Or.inl h')) (fun h' => hc (Or.inr h')) hf
theorem oper_build_mail {o : Oper} {a : Act} {w : World} {K : Act → World → Prop} {Q : Exit → Act → World → Prop} (x : Operand) (ho : o.op = .buildSlice 24 1 #[(0, x)]) (m : MailS) (u : Value) (hx : a.eval x = mailV m u)
    (h : K (a.put o.dst (.slice (some ⟨w.heap.size, 0, none⟩) 1 1)) (w.alloc (.cells (mC m u).toArray 48))) : Oper.wp Try.prog o a w K Q := by
  have hr := run_build_mail m u w
  have hp : (#[(0, x)] : Array (Nat × Operand)).map (fun (i, x) => (i, a.eval x)) = #[(0, mailV m u)] := by simp [hx]
  unfold Oper.wp execOp
  simp only [ho, hp, Sem.run_bind, hr, Result.andThen_ok]
  exact h
/-- A message in memory of its own is put behind the others. -/
theorem put_go {Y : Nat → Prop} {g n k : Nat} {l : List MailS} {m : MailS} {A' : Option Addr} {c' : Nat} {W W2 W3 : World} (h : PostAt W Y g l) (_hn : m.bs.length = n) (hl : l.length = k) (hlt : k < 600) (hb2 : Below W.heap.size W W2) (hr : RdB W2 (fun b => W.heap.size ≤ b ∧ b < W2.heap.size) (.slice A' n c') m.bs)
    (hb3 : Below W2.heap.size W2 W3) (hk3 : Blk W3 W2.heap.size 48 (mC m (.slice A' n c')).toArray) :
    Calls Try.prog 24 #[.pointer (some ⟨g, 0, none⟩), .int .i64 (k : Int), .slice (some ⟨W2.heap.size, 0, none⟩) 1 1] W3 fun e w' => e = .returned (.tuple #[]) ∧ Turn (fun i => i = g) W w' ∧ ∃ Y', PostAt w' Y' g (l ++ [m]) ∧ ∀ i, Y' i → Y i ∨ W.heap.size ≤ i := by
  have hb := hb2.trans (hb3.mono hb2.size)
  have hg := h.lt g h.mem
  have h2s := hb2.size
  have h3s := hb3.size
  have hrd : RdM W3 (fun b => W.heap.size ≤ b ∧ b < W3.heap.size) (.slice (some ⟨W2.heap.size, 0, none⟩) 1 1) [m] := by
    refine ⟨[(m, .slice A' n c')], rfl, (rdC_one hk3 (elsM (W := W2) (ok := fun b => W.heap.size ≤ b ∧ b < W2.heap.size) (p := [(m, .slice A' n c')]) fun q hq => by rw [List.mem_singleton] at hq; rw [hq]; exact hr)).mono fun b hb => by have := hk3.lt; omega, fun q hq => ?_⟩
    rw [List.mem_singleton] at hq
    rw [hq]
    exact (hr.kept fun a x ha hx => (hb3.cell (p := a) ha.2).trans hx).mono fun b hb => ⟨hb.1, by omega⟩
  refine (postGoOn_any k (h.below hb) (by omega) hrd (fun b hb => ⟨hb.2, by omega⟩) (by omega)).mono ?_
  rintro e w' ⟨rfl, Y', h1, h2, h3⟩
  rw [List.take_of_length_le (by omega)] at h1
  refine ⟨rfl, (Turn.of_new hb _).trans h2 (fun _ _ h => h), Y', h1, fun i hi => ?_⟩
  rcases h3 i hi with h | h | h
  · exact .inl h
  · exact .inr h.1
  · exact .inr (Nat.le_trans hb.size h)
/-- A message more; what is said of it. -/
def putM (l : List MailS) (m : MailS) : List MailS := if 600 ≤ l.length then l else l ++ [m]
def putE (l : List MailS) : Int := if 600 ≤ l.length then 3 else 0
set_option maxRecDepth 100000 in
set_option maxHeartbeats 2000000 in
theorem postPut_any {Y : Nat → Prop} {g : Nat} {l : List MailS} {m : MailS} {u : Value} {w : World} (h : PostAt w Y g l) (hr : RdB w (fun b => b < w.heap.size) u m.bs) :
    Calls Try.prog 11 #[.pointer (some ⟨g, 0, none⟩), mailV m u] w fun e w' => e = .returned (.int .i64 (putE l)) ∧ PLeft Y g (putM l m) w w' := by
  obtain ⟨A, c, rfl⟩ := hr.shape
  obtain ⟨n, hn⟩ : ∃ n, m.bs.length = n := ⟨_, rfl⟩
  obtain ⟨k, hk⟩ : ∃ k, l.length = k := ⟨_, rfl⟩
  rw [hn] at hr ⊢
  have HN := Lib.hid hn
  have HL := Lib.hid hk
  by_cases h6 : 600 ≤ k
  · have e1 : decide ((k : Int) ≥ 600) = true := decide_eq_true (by omega)
    have HE : Hid (putE l = 3 ∧ putM l m = l) := Lib.hid (by unfold putE putM; rw [hk]; exact ⟨if_pos h6, if_pos h6⟩)
    rw [HE.out.1, HE.out.2]
    have HX := Lib.hid h
    have HLN := Lib.hid fun w' hb => (hk ▸ postLen_any (h.below (W' := w') hb) : Calls Try.prog 16 #[.pointer (some ⟨g, 0, none⟩)] w' fun e w'' => e = .returned (.int .i64 (k : Int)) ∧ w'' = w')
    clear h hr hn hk
    go_enter Try.func11, Try.ntmps11
    go_wp2_with (go_at_call 16; refine (HLN.out _ ((Below.refl _ _).alloc (Nat.le_refl _) _)).mono ?_; rintro e Wn ⟨rfl, rfl⟩)
    go_ret
    exact ⟨rfl, Y, HX.out.below ((Below.refl _ _).alloc (Nat.le_refl _) _), Turn.of_new ((Below.refl _ _).alloc (Nat.le_refl _) _) _, fun i hi => .inl hi⟩
  · have e1 : decide ((k : Int) ≥ 600) = false := decide_eq_false (by omega)
    have hlt : k < 600 := by omega
    have HE : Hid (putE l = 0 ∧ putM l m = l ++ [m]) := Lib.hid (by unfold putE putM; rw [hk]; exact ⟨if_neg h6, if_neg h6⟩)
    rw [HE.out.1, HE.out.2]
    have HNG : Hid (¬ w.heap.size = g) := Lib.hid (by have := h.lt g h.mem; omega)
    have HX := Lib.hid h
    have HRD := Lib.hid hr
    clear h hr hn hk
    go_enter Try.func11, Try.ntmps11
    go_upto_region 1 with fail
    generalize hW : World.alloc w _ = W
    have hs0 : Blk W w.heap.size 48 (mC m (.slice A n c)).toArray := by rw [← hW]; exact Blk.newAt _ _ rfl rfl
    have hb0 : Below w.heap.size w W := by rw [← hW]; exact (Below.refl _ _).alloc (Nat.le_refl _) _
    have HP := Lib.hid (HX.out.below hb0)
    have HS0 := Lib.hid hs0
    have HB0 := Lib.hid hb0
    have HLN : Hid (Calls Try.prog 16 #[.pointer (some ⟨g, 0, none⟩)] W fun e w'' => e = .returned (.int .i64 (k : Int)) ∧ w'' = W) := Lib.hid (by
      have := postLen_any HP.out
      rw [HL.out] at this
      exact this)
    have HA := Lib.hid (fun W' (hb : Below W.heap.size W W') => mailApart_any m (.slice A n c) W' ((HRD.out.kept fun a x ha h => ((hb0.trans (hb.mono hb0.size)).cell (p := a) ha).trans h).mono fun b h => Nat.lt_of_lt_of_le h (hb0.trans (hb.mono hb0.size)).size))
    clear hW hs0 hb0
    go_upto_region 3 with (go_at_call 16; refine HLN.out.mono ?_; rintro e Wn ⟨rfl, rfl⟩)
    have HSD : Hid (Blk Wn.drew w.heap.size 48 (mC m (.slice A n c)).toArray) := Lib.hid HS0.out.drew
    have HPD : Hid (PostAt Wn.drew Y g l) := Lib.hid (HP.out.below (Below.refl _ _).drew)
    replace HLN : Hid (Calls Try.prog 16 #[.pointer (some ⟨g, 0, none⟩)] Wn.drew fun e w'' => e = .returned (.int .i64 (k : Int)) ∧ w'' = Wn.drew) := Lib.hid (by
      have := postLen_any HPD.out
      rw [HL.out] at this
      exact this)
    refine wp_region_held_drew (S := fun W' => Blk W' w.heap.size 48 (mC m (.slice A n c)).toArray) (by kernel_rfl) ?_ (fun hHeld => ?_)
    · exact HSD.out
    refine wpAnyH_take (i := 0) (oi := ⟨some 8, _, _, _, _, _⟩) (v := ?_) rfl (by kernel_rfl) (by kernel_rfl) (by kernel_rfl) (fun _ _ _ h => h) (Or.inl ⟨by rfl, ?_⟩) (by assumption) ?_
    rotate_left
    · intro w hSw; (try dsimp only at hSw); go_simp; try (with_reducible rfl)
    rotate_left 0
    try simp only [Act.put, List.setIfInBounds_toArray, List.set_cons_zero, List.set_cons_succ]
    refine wpAnyH_take (i := 1) (oi := ⟨some 9, _, _, _, _, _⟩) (v := ?_) rfl (by kernel_rfl) (by kernel_rfl) (by kernel_rfl) (fun _ _ _ h => h) (Or.inl ⟨by rfl, ?_⟩) (by assumption) ?_
    rotate_left
    · intro w hSw; (try dsimp only at hSw); go_simp; try (with_reducible rfl)
    rotate_left 0
    try simp only [Act.put, List.setIfInBounds_toArray, List.set_cons_zero, List.set_cons_succ]
    refine wpAnyH_take (i := 3) (oi := ⟨some 11, _, _, _, _, _⟩) (v := (mailV m (.slice A n c))) rfl (by kernel_rfl) (by kernel_rfl) (by kernel_rfl) (fun _ _ _ h => h) (yieldsIf_load_blk (by rfl) 48 _ rfl w.heap.size rfl 48 _ _ (fun W' hS => hS) Try.underlying48 rfl (by kernel_rfl)) (by assumption) ?_
    try simp only [Act.put, List.setIfInBounds_toArray, List.set_cons_zero, List.set_cons_succ]
    refine wpAnyH_ready (rs := [2]) (by kernel_rfl) (by simp) ?_
    refine (AllReadyH.cons (o := ⟨some 10, _, _, _, _, _⟩) rfl (fun K hK => ?_) AllReadyH.nil)
    (try rw [if_pos (by rfl)])
    go_simp
    refine HLN.out.mono ?_
    rintro e Wn ⟨rfl, rfl⟩
    have hsX := HSD.out
    try dsimp only
    refine hK.out _ _ (hsX) (fun hHeld => ?_)
    clear hK K
    try simp only [Act.put, List.setIfInBounds_toArray, List.set_cons_zero, List.set_cons_succ]
    refine wpAnyH_ready (rs := [4]) (by kernel_rfl) (by simp) ?_
    refine (AllReadyH.cons (o := ⟨some 12, _, _, _, _, _⟩) rfl (fun K hK => ?_) AllReadyH.nil)
    (try rw [if_pos (by rfl)])
    go_simp
    refine (HA.out _ (Below.refl _ _).drew).mono ?_
    rintro e W2 ⟨u', rfl, hr2, hb2⟩
    have hsX := HSD.out.below hb2 HSD.out.lt
    obtain ⟨A', c', rfl⟩ := hr2.shape
    rw [HN.out] at hr2 ⊢
    have HR2 := Lib.hid hr2
    have HB2 := Lib.hid hb2
    clear hr2 hb2
    try dsimp only
    refine hK.out _ _ (hsX) (fun hHeld => ?_)
    clear hK K
    try simp only [Act.put, List.setIfInBounds_toArray, List.set_cons_zero, List.set_cons_succ]
    refine wpAnyH_ready (rs := [5]) (by kernel_rfl) (by simp) ?_
    refine (AllReadyH.cons (o := ⟨some 13, _, _, _, _, _⟩) rfl (fun K hK => ?_) AllReadyH.nil)
    (try rw [if_pos (by rfl)])
    refine oper_build_mail _ rfl m (.slice A' n c') rfl ?_
    replace hsX := hsX.alloc (.cells (mC m (.slice A' n c')).toArray 48)
    obtain ⟨W3, hW3⟩ : ∃ W3, W2.alloc (.cells (mC m (.slice A' n c')).toArray 48) = W3 := ⟨_, rfl⟩
    rw [hW3] at hsX ⊢
    have HW3 := Lib.hid (And.intro (show Below W2.heap.size W2 W3 by rw [← hW3]; exact (Below.refl _ _).alloc (Nat.le_refl _) _) (show Blk W3 W2.heap.size 48 (mC m (.slice A' n c')).toArray by rw [← hW3]; exact Blk.newAt _ _ rfl rfl))
    clear hW3
    try dsimp only
    refine hK.out _ _ (hsX) (fun hHeld => ?_)
    clear hK K
    try simp only [Act.put, List.setIfInBounds_toArray, List.set_cons_zero, List.set_cons_succ]
    refine wpAnyH_ready (rs := [6]) (by kernel_rfl) (by simp) ?_
    refine (AllReadyH.cons (o := ⟨some 14, _, _, _, _, _⟩) rfl (fun K hK => ?_) AllReadyH.nil)
    (try rw [if_pos (by rfl)])
    go_simp
    refine (put_go HPD.out HN.out HL.out hlt HB2.out HR2.out HW3.out.1 HW3.out.2).mono ?_
    rintro e W4 ⟨rfl, ht4, hl4⟩
    replace hsX := ht4.blk HSD.out HNG.out
    have HL4 := Lib.hid (And.intro ht4 hl4)
    clear ht4 hl4
    try dsimp only
    refine hK.out _ _ (hsX) (fun hHeld => ?_)
    clear hK K
    try simp only [Act.put, List.setIfInBounds_toArray, List.set_cons_zero, List.set_cons_succ]
    refine wpAnyH_done (by kernel_rfl) ?_ _
    have HX4 := Lib.hid HL4.out
    clear hsX
    go_wp2
    go_ret
    refine ⟨rfl, HX4.out.2.elim fun Y' h => ⟨Y', h.1, ((Turn.of_new HB0.out _).drew).trans HX4.out.1 (fun _ _ h => h), fun i hi => (h.2 i hi).imp id fun h => Nat.le_trans HB0.out.size h⟩⟩
end Go.Proofs.Ytekakelkjnhehaa
