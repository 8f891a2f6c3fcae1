/-
  pack.readFields: for all bytes: the fields put into the message's variable, one behind the other, or the first error.
-/
import Derived.Test.YtkbdkeclbokhdaaDoorPackPutAll
import Derived.WalkMore
namespace Go.Proofs.YtkbdkeclbokhdaaDoor
open Go Go.RowKit PackMath
attribute [local go_sem] Oper.semAt_some

theorem lit38 (f : Nat → Value) : arr 38 f = #[f 0, f 1, f 2, f 3, f 4, f 5, f 6, f 7, f 8, f 9, f 10, f 11, f 12, f 13, f 14, f 15, f 16, f 17, f 18, f 19, f 20, f 21, f 22, f 23, f 24, f 25, f 26, f 27, f 28, f 29, f 30, f 31, f 32, f 33, f 34, f 35, f 36, f 37] := by
  rw [arr_list, show List.range 38 = [0, 1, 2, 3, 4, 5, 6, 7, 8, 9, 10, 11, 12, 13, 14, 15, 16, 17, 18, 19, 20, 21, 22, 23, 24, 25, 26, 27, 28, 29, 30, 31, 32, 33, 34, 35, 36, 37] from by kernel_rfl]
  rfl
set_option maxRecDepth 100000 in
set_option maxHeartbeats 1000000 in
theorem fieldsIn_any (A : Option Addr) (n c : Nat) (w : World) : CallsIn Fence.wide 0 Tryd.prog 67 #[.slice A n c] w fun e w' => e = .returned (.func (.func 74) #[] #[.pointer (some ⟨w.heap.size, 0, none⟩)]) ∧ w' = w.alloc (.cells #[.slice A n c] 42) := by
  refine callsIn_of_wp Tryd.func67 rfl trivial ?_ rfl
  simp only [Tryd.ntmps67, List.size_toArray, List.length_cons, List.length_nil, Nat.reduceAdd, Nat.reduceSub, Array.replicate_succ, Array.replicate_zero, List.push_toArray, List.append_toArray, List.nil_append, List.cons_append]
  gi_wp2
  go_ret
  exact ⟨rfl, rfl⟩
/-- What holds between two fields: B: the heap's size as the call begins; the pointer's box lies at B, the error at B + 1, the last tag at B + 2, the iterator's bytes at B + 3. -/
def InvF (w : World) (B g : Nat) (r0 : Raw) (pre : List (Nat × Option (List UInt8))) (o : Nat → Prop) (W : World) : Prop :=
  ∃ (last : Nat) (r : Raw), foldR (0, r0) pre = .ok (last, r) ∧ MsgAt W g (fun b => o b ∧ B + 4 ≤ b) r ∧ (∃ T, Blk W B T #[.pointer (some ⟨g, 0, none⟩)]) ∧ Blk W (B + 1) 25 #[.int .i64 0] ∧ Blk W (B + 2) 3 #[.int .i64 (last : Int)] ∧
    (o g ∧ o (B + 1) ∧ o (B + 2)) ∧ (∀ b, o b → (b = g ∨ b = B + 1 ∨ b = B + 2 ∨ B + 4 ≤ b) ∧ ∃ x, W.heap[b]? = some x ∧ x.isCells = true) ∧ w.grownBy W (some g)
/-- What holds when a field was refused. -/
def InvG (w : World) (B g : Nat) (r0 : Raw) (c : Code) (pre : List (Nat × Option (List UInt8))) (_ : Nat → Prop) (W : World) : Prop :=
  c = .exit 0 ∧ ∃ k : Nat, k ≠ 0 ∧ foldR (0, r0) pre = .error k ∧ Blk W (B + 1) 25 #[.int .i64 (k : Int)] ∧ w.grownBy W (some g)
theorem invF_ab (w : World) (B g D : Nat) (r0 : Raw) (hB : w.heap.size = B) (_hg : g < B) (hD : B + 4 ≤ D) : AbN (fun b => b = B + 3) D (InvF w B g r0) := by
  refine ⟨fun pre o W W' h hs => ?_, fun pre o W h b hb => ?_⟩
  · obtain ⟨last, r, h1, ⟨d, i, l, h2, h3⟩, ⟨T, h4⟩, h5, h6, ⟨h7, h8, h9⟩, h10, h11⟩ := h
    have hblk : ∀ b, o b → W'.heap[b]? = W.heap[b]? := fun b hb => hs.block b (.inr hb) (by
      obtain ⟨x, hx, _⟩ := (h10 b hb).2
      exact (Array.getElem?_eq_some_iff.1 hx).1)
    refine ⟨last, r, h1, ⟨d, i, l, (hblk g h7).trans h2, h3.kept fun a x ha hx => (World.cell?_of_block (hblk _ ha.1)).trans hx⟩, ⟨T, (hs.block B (.inl ⟨by omega, by omega⟩) h4.lt).trans h4⟩, (hblk _ h8).trans h5, (hblk _ h9).trans h6, ⟨h7, h8, h9⟩, fun b hb => ⟨(h10 b hb).1, ?_⟩, ?_⟩
    · rw [hblk b hb]
      exact (h10 b hb).2
    · exact ⟨hs.os.trans h11.os, hs.tape.trans h11.tape, hs.output.trans h11.output, Nat.le_trans h11.size hs.size, fun b hb hne => (hs.block b (.inl ⟨by omega, by omega⟩) (by have := h11.size; omega)).trans (h11.block b hb hne)⟩
  · obtain ⟨last, r, h1, h2, h4, h5, h6, h7, h10, h11⟩ := h
    exact (h10 b hb).2
theorem invG_ab (w : World) (B g D : Nat) (r0 : Raw) (hB : w.heap.size = B) (hD : B + 4 ≤ D) (c : Code) : AbN (fun b => b = B + 3) D (fun pre o W => InvG w B g r0 c pre o W ∧ ∀ b, ¬ o b) := by
  refine ⟨fun pre o W W' h hs => ?_, fun pre o W h b hb => absurd hb (h.2 b)⟩
  obtain ⟨⟨h1, k, h0, h2, h3, h4⟩, h6⟩ := h
  exact ⟨⟨h1, k, h0, h2, (hs.block (B + 1) (.inl ⟨by omega, by omega⟩) h3.lt).trans h3, ⟨hs.os.trans h4.os, hs.tape.trans h4.tape, hs.output.trans h4.output, Nat.le_trans h4.size hs.size, fun b hb hne => (hs.block b (.inl ⟨by omega, by omega⟩) (by have := h4.size; omega)).trans (h4.block b hb hne)⟩⟩, h6⟩
/-- What the round's registers hold of an element. -/
def AxF (B _g : Nat) (x : Nat × Option (List UInt8)) (o : Nat → Prop) (a' : Act) (W : World) : Prop :=
  ∃ f h, a' = ⟨arr 38 f, []⟩ ∧ f 2 = .pointer (some ⟨B, 0, none⟩) ∧ f 5 = .pointer (some ⟨B + 1, 0, none⟩) ∧ f 6 = .pointer (some ⟨B + 2, 0, none⟩) ∧ f 7 = .pointer (some ⟨h, 0, none⟩) ∧ ¬ o h ∧ B + 4 ≤ h ∧
    match x.2 with
    | none => Blk W h 122 #[.int .i64 (x.1 : Int), .slice none 0 0, .bool false]
    | some bs => ∃ A c, Blk W h 122 #[.int .i64 (x.1 : Int), .slice A bs.length c, .bool true] ∧ RdB W (fun b => b < W.heap.size ∧ ¬ o b) (.slice A bs.length c) bs
/-- What readFields leaves. -/
def FieldsOut (w : World) (g : Nat) (r0 : Raw) (bs : List UInt8) (e : Ending) (w' : World) : Prop :=
  match foldR (0, r0) (fsteps bs) with
  | .error k => e = .returned (.int .i64 (k : Int)) ∧ k ≠ 0
  | .ok (_, r) => e = .returned (.int .i64 0) ∧ MsgAt w' g (fresh w w') r
structure FactsF (w : World) (B g : Nat) (r0 : Raw) (d i l : Value) (A : Option Addr) (n c : Nat) (W : World) : Prop where
  size : W.heap.size = B + 4
  grown : w.grownBy W (some g)
  ptr : ∃ T, Blk W B T #[.pointer (some ⟨g, 0, none⟩)]
  err : Blk W (B + 1) 25 #[.int .i64 0]
  last : Blk W (B + 2) 3 #[.int .i64 0]
  bytes : Blk W (B + 3) 42 #[.slice A n c]
  msg : Blk W g 69 (msgA r0 d i l)
theorem factsF {w : World} {B g : Nat} {r0 : Raw} {d i l : Value} (A : Option Addr) (n c : Nat) (T : TypeId) (hB : w.heap.size = B) (hg : Blk w g 69 (msgA r0 d i l)) :
    FactsF w B g r0 d i l A n c ((((w.alloc (.cells #[.pointer (some ⟨g, 0, none⟩)] T)).alloc (.cells #[.int .i64 0] 25)).alloc (.cells #[.int .i64 0] 3)).alloc (.cells #[.slice A n c] 42)) where
  size := by simp [hB]
  grown := grown_trans (grown_trans (grown_trans (grown_alloc w _ (some g)) (grown_alloc _ _ (some g)) (.inl rfl)) (grown_alloc _ _ (some g)) (.inl rfl)) (grown_alloc _ _ (some g)) (.inl rfl)
  ptr := ⟨T, (((Blk.newAt _ _ hB rfl).alloc _).alloc _).alloc _⟩
  err := ((Blk.newAt _ _ (by simp [hB]) rfl).alloc _).alloc _
  last := (Blk.newAt _ _ (by simp [hB]) rfl).alloc _
  bytes := Blk.newAt _ _ (by simp [hB]) rfl
  msg := (((hg.alloc _).alloc _).alloc _).alloc _
theorem gen_world {Fa Po : World → Prop} {W : World} (hf : Fa W) (h : ∀ W3, Fa W3 → Po W3) : Po W := h W hf
set_option maxRecDepth 100000 in
set_option maxHeartbeats 4000000 in
theorem readFields_any (g : Nat) (r0 : Raw) (A : Option Addr) (c : Nat) (bs : List UInt8) (D : Nat) (w : World) (hm : MsgAt w g (fun _ => False) r0) (hD : D ≤ g) (hr : RdB w (fun b => b < D) (.slice A bs.length c) bs) :
    CallsIn Fence.wide 0 Tryd.prog 53 #[.pointer (some ⟨g, 0, none⟩), .slice A bs.length c] w fun e w' => w.grownBy w' (some g) ∧ FieldsOut w g r0 bs e w' := by
  obtain ⟨B, hB⟩ : ∃ B, w.heap.size = B := ⟨_, rfl⟩
  obtain ⟨n, hn⟩ : ∃ n, bs.length = n := ⟨_, rfl⟩
  obtain ⟨d0, i0, l0, hg0, hR0⟩ := hm
  have hgB : g < B := by rw [← hB]; exact hg0.lt
  have HR := Lib.hid hr
  have HR0 := Lib.hid hR0
  have HN := Lib.hid hn
  have HG0 := Lib.hid hg0
  rw [hn]
  clear hr hn hR0 hg0
  refine callsIn_of_wp_marks Tryd.func53 rfl trivial ?_ rfl
  simp only [Tryd.ntmps53, List.size_toArray, List.length_cons, List.length_nil, Nat.reduceAdd, Nat.reduceSub, Array.replicate_succ, Array.replicate_zero, List.push_toArray, List.append_toArray, List.nil_append, List.cons_append]
  gi_wp2
  refine wpIn_wide.2 (wp_scope_straight ((wpIn_wide (n := 0)).1 ?_))
  gi_wp2
  refine wpIn_label ?_
  gi_wp2_with (first
    | (refine ⟨trivial, rfl, ?_⟩; gi_at_call 67; refine (fieldsIn_any _ _ _ _).mono ?_; rintro e w' ⟨rfl, rfl⟩))
  rw [show B + 1 + 1 + 1 = B + 3 from rfl, show B + 1 + 1 = B + 2 from rfl]
  refine gen_world (Fa := FactsF w B g r0 d0 i0 l0 A n c) (factsF A n c _ hB HG0.out) (fun W3 hF => ?_)
  have hz3 := hF.size
  have HF := Lib.hid hF
  have hseq := fin_seq (B + 3) D A c bs W3 (by omega) (by rw [HN.out]; exact hF.bytes) (HR.out.kept (W' := W3) fun a x ha h => hF.grown.cell h fun e => by injection e with e; omega)
  have h0 : InvF w B g r0 [] (fun b => b = g ∨ b = B + 1 ∨ b = B + 2) W3 := ⟨0, r0, rfl, ⟨d0, i0, l0, hF.msg, (HR0.out.kept (W' := W3) fun a x ha h => ha.elim).mono fun b hb => hb.elim⟩, hF.ptr, hF.err, hF.last, ⟨.inl rfl, .inr (.inl rfl), .inr (.inr rfl)⟩, fun b hb => by
    rcases hb with rfl | rfl | rfl
    · exact ⟨.inl rfl, _, hF.msg, rfl⟩
    · exact ⟨.inr (.inl rfl), _, hF.err, rfl⟩
    · exact ⟨.inr (.inr (.inl rfl)), _, hF.last, rfl⟩, hF.grown⟩
  clear hF
  refine wpIn_rangeFunc_N (gf := 74) (lb := #[.pointer (some ⟨B + 3, 0, none⟩)]) rfl (enters_of Tryd.func74 (by kernel_rfl) rfl) (M := fun b => b = B + 3) (fun b hb => by omega) hseq
    (fun x o W vs h => by
      obtain ⟨t, ox⟩ := x
      cases ox with
      | none => rw [show vs = _ from h]; rfl
      | some bs => obtain ⟨A, c, rfl, _⟩ := h; rfl)
    (InvF w B g r0) (fun c pre o W => InvG w B g r0 c pre o W ∧ ∀ b, ¬ o b) (invF_ab w B g _ r0 hB hgB (by omega)) (fun c => invG_ab w B g _ r0 hB (by omega) c)
    (fun b => b = g ∨ b = B + 1 ∨ b = B + 2) h0 ⟨by omega, fun b hb => by omega⟩
    (AxF B g)
    (fun x o a' W l b b' _ h1 h2 h3 => by
      obtain ⟨f, h, q1, q2, q3, q4, q5, q6, q7, q8⟩ := h3
      have kb : ∀ {cs : Array Value} {t : TypeId}, Blk W h t cs → Blk (W.putObj l b') h t cs := fun k => (World.putObj_heap_other fun e => by
        subst e
        have k' : W.heap[h]? = some _ := k
        rw [h1] at k'
        cases k'
        cases h2).trans k
      refine ⟨f, h, q1, q2, q3, q4, q5, q6, q7, ?_⟩
      obtain ⟨t, ox⟩ := x
      cases ox with
      | none => exact kb q8
      | some bs =>
        obtain ⟨A, c, q8, q9⟩ := q8
        exact ⟨A, c, kb q8, (q9.kept fun a x _ h => cell_putObj h1 h2 b' h).mono fun c hc => ⟨by simpa [World.putObj] using hc.1, hc.2⟩⟩) ?assign ?body ?done ?stop
  case assign =>
    intro l pre x vs o W K hlt hpre hi henc hK
    have hno : ¬ o W.heap.size := fun h => by
      obtain ⟨last, r, h1, h2, h4, h5, h6, h7, h10, h11⟩ := hi
      obtain ⟨_, x, hx, _⟩ := h10 _ h
      have := (Array.getElem?_eq_some_iff.1 hx).1
      omega
    have hWB : B + 4 ≤ W.heap.size := by omega
    have hba : ∀ cs, Below W.heap.size W (W.alloc (.cells cs 122)) := fun cs => (Below.refl _ W).alloc (Nat.le_refl _) _
    have hbk : ∀ cs, KeepsFrom W3.heap.size W (W.alloc (.cells cs 122)) := fun cs => keepsFrom_of_below (hba cs)
    have hnb : ∀ cs, Blk (W.alloc (.cells cs 122)) W.heap.size 122 cs := fun cs => Blk.new _ _ _
    have H1 := Lib.hid (And.intro hba (And.intro hbk hnb))
    clear hi hseq hba hbk hnb h0
    obtain ⟨t, ox⟩ := x
    cases ox with
    | none =>
      obtain rfl : vs = _ := henc
      gi_wp2
      exact hK _ _ (H1.out.2.1 _) (H1.out.1 _) ⟨_, W.heap.size, congrArg (fun t => Act.mk t []) (arr_getD _ rfl), rfl, rfl, rfl, rfl, hno, hWB, H1.out.2.2 _⟩
    | some x =>
      obtain ⟨A, c, rfl, hrd⟩ := henc
      have HRD := Lib.hid hrd
      clear hrd
      gi_wp2
      exact hK _ _ (H1.out.2.1 _) (H1.out.1 _) ⟨_, W.heap.size, congrArg (fun t => Act.mk t []) (arr_getD _ rfl), rfl, rfl, rfl, rfl, hno, hWB, A, c, H1.out.2.2 _, (HRD.out.kept fun a x ha h => ((H1.out.1 _).cell (p := a) ha.1).trans h).mono fun b hb => ⟨Nat.lt_of_lt_of_le hb.1 (H1.out.1 _).size, hb.2⟩⟩
  case body =>
    rintro l pre x o a' W hl hlt hpre ⟨last, r, h1, hmsg, ⟨T, h4⟩, h5, h6, ⟨h7, h8, h9⟩, h10, h11⟩ ⟨f, h, rfl, f2, f5, f6, f7, hno, hhB, hx⟩
    have HZ3 := Lib.hid hz3
    clear hz3
    obtain ⟨t, ox⟩ := x
    have cP : W.cell? ⟨B, 0, none⟩ = some (.pointer (some ⟨g, 0, none⟩)) := by rw [h4.cell]; rfl
    have cE : W.cell? ⟨B + 1, 0, none⟩ = some (.int .i64 0) := by rw [h5.cell]; rfl
    have eE := h5.frozen 0
    have cL : W.cell? ⟨B + 2, 0, none⟩ = some (.int .i64 (last : Int)) := by rw [h6.cell]; rfl
    have HERR : Hid (∀ k : Nat, k ≠ 0 → foldR (0, r0) (pre ++ [(t, ox)]) = .error k → KeepsFrom W3.heap.size W (W.setCell ⟨B + 1, 0, none⟩ (.int .i64 (k : Int))) ∧ ∃ o' : Nat → Prop, InvG w B g r0 (.exit 0) (pre ++ [(t, ox)]) o' (W.setCell ⟨B + 1, 0, none⟩ (.int .i64 (k : Int))) ∧ ∀ b, ¬ o' b) := Lib.hid fun k hk he =>
      ⟨keepsFrom_row h5 (by simp [World.setCell]) fun b hb => Below.heap_setCell _ _ _ _ hb, fun _ => False, ⟨rfl, k, hk, he, (h5.store 0 _).same rfl, ⟨h11.os, h11.tape, h11.output, by simpa [World.setCell] using h11.size, fun b hb hne => (Below.heap_setCell _ ⟨B + 1, 0, none⟩ _ _ (by simp; omega)).trans (h11.block b hb hne)⟩⟩, fun _ h => h⟩
    have HST := Lib.hid (foldR_snoc h1 (t, ox))
    by_cases ha : t ≤ last ∨ 9 < t
    · have HK := Lib.hid (HERR.out 21 (by omega) (by rw [HST.out, stepR, if_pos ha]))
      have cH : W.cell? ⟨h, 0, none⟩ = some (.int .i64 (t : Int)) := by
        cases ox with
        | none => rw [Blk.cell hx]; rfl
        | some bs => obtain ⟨A, c, hx, _⟩ := hx; rw [Blk.cell hx]; rfl
      rw [lit38, f2, f5, f6, f7]
      clear hx h1 hmsg h4 h5 h6 h7 h8 h9 h10 h11 hseq f2 f5 f6 f7 h0
      by_cases hle : t ≤ last
      · have d1 : decide ((t : Int) ≤ (last : Int)) = true := decide_eq_true (by omega)
        have d1' : (t : Int) ≤ (last : Int) := by omega
        clear ha hle
        gi_wp2
        exact HK.out
      · have d1 : decide ((t : Int) ≤ (last : Int)) = false := decide_eq_false (by omega)
        have d1' : ¬ (t : Int) ≤ (last : Int) := by omega
        have d2 : (9 : Int) < (t : Int) := by omega
        clear ha hle
        gi_wp2
        exact HK.out
    · have d1 : decide ((t : Int) ≤ (last : Int)) = false := decide_eq_false (by omega)
      have d1' : ¬ (t : Int) ≤ (last : Int) := by omega
      have d2 : ¬ (9 : Int) < (t : Int) := by omega
      have ht1 : 1 ≤ t := by omega
      have ht9 : t ≤ 9 := by omega
      have HT := Lib.hid (And.intro ht1 (And.intro ht9 ha))
      clear ha ht1 ht9
      cases ox with
      | none =>
        have HK := Lib.hid (HERR.out 20 (by omega) (by rw [HST.out, stepR, if_neg HT.out.2.2]))
        have cH : W.cell? ⟨h, 0, none⟩ = some (.int .i64 (t : Int)) := by rw [Blk.cell hx]; rfl
        have cH2 : W.cell? ⟨h, 2, none⟩ = some (.bool false) := by rw [Blk.cell hx]; rfl
        rw [lit38, f2, f5, f6, f7]
        clear hx h1 hmsg h4 h5 h6 h7 h8 h9 h10 h11 hseq f2 f5 f6 f7 h0
        gi_wp2
        exact HK.out
      | some bs' =>
        obtain ⟨A1, c1, hx, hrd⟩ := hx
        have cH : W.cell? ⟨h, 0, none⟩ = some (.int .i64 (t : Int)) := by rw [Blk.cell hx]; rfl
        have cH1 : W.cell? ⟨h, 1, none⟩ = some (.slice A1 bs'.length c1) := by rw [Blk.cell hx]; rfl
        have cH2 : W.cell? ⟨h, 2, none⟩ = some (.bool true) := by rw [Blk.cell hx]; rfl
        by_cases hnil : bs' = []
        · subst hnil
          have HK := Lib.hid (HERR.out 23 (by omega) (by rw [HST.out, stepR, if_neg HT.out.2.2]; rfl))
          rw [lit38, f2, f5, f6, f7]
          clear hx hrd h1 hmsg h4 h5 h6 h7 h8 h9 h10 h11 hseq f2 f5 f6 f7 h0
          gi_wp2
          exact HK.out
        · have hlen := fsteps_len bs t bs' (by obtain ⟨q, hq⟩ := hpre; rw [← hq]; simp)
          have hol : ∀ b, o b → b < W.heap.size := fun b hb => by
            obtain ⟨_, x, hx, _⟩ := h10 b hb
            exact (Array.getElem?_eq_some_iff.1 hx).1
          have HC := Lib.hid (put_any g r (fun b => o b ∧ B + 4 ≤ b) A1 c1 bs' hnil hlen t HT.out.1 HT.out.2.1 W hmsg (fun b hb => ⟨hol b hb.1, by omega⟩) (hrd.mono fun b hb => hb.1))
          have hstep : stepR (last, r) (t, some bs') = match putR r bs' t with | .error e => .error e | .ok r' => .ok (t, r') := by
            rw [stepR, if_neg HT.out.2.2]
            show (if bs' = [] then _ else match putR r bs' t with | .error e => Except.error e | .ok r' => .ok (t, r')) = _
            rw [if_neg hnil]
          have hgh : g ≠ h := fun e => hno (e ▸ h7)
          have HPOST : Hid (∀ w1 e, W.grownBy w1 (some g) → PutOut W g (fun b => o b ∧ B + 4 ≤ b) r bs' t e w1 → (w1.cell? ⟨B + 1, 0, none⟩ = some (.int .i64 0) ∧ w1.frozen? ⟨B + 1, 0, none⟩ = false) ∧
              ((∃ k : Nat, e = .returned (.int .i64 (k : Int)) ∧ k ≠ 0 ∧ (w1.setCell ⟨B + 1, 0, none⟩ (.int .i64 (k : Int))).cell? ⟨B + 1, 0, none⟩ = some (.int .i64 (k : Int)) ∧ KeepsFrom W3.heap.size W (w1.setCell ⟨B + 1, 0, none⟩ (.int .i64 (k : Int))) ∧ ∃ o' : Nat → Prop, InvG w B g r0 (.exit 0) (pre ++ [(t, some bs')]) o' (w1.setCell ⟨B + 1, 0, none⟩ (.int .i64 (k : Int))) ∧ ∀ b, ¬ o' b) ∨
              (e = .returned (.int .i64 0) ∧ (w1.setCell ⟨B + 1, 0, none⟩ (.int .i64 0)).cell? ⟨B + 1, 0, none⟩ = some (.int .i64 0) ∧ (w1.setCell ⟨B + 1, 0, none⟩ (.int .i64 0)).cell? ⟨h, 0, none⟩ = some (.int .i64 (t : Int)) ∧ (w1.setCell ⟨B + 1, 0, none⟩ (.int .i64 0)).cell? ⟨B + 2, 0, none⟩ = some (.int .i64 (last : Int)) ∧ (w1.setCell ⟨B + 1, 0, none⟩ (.int .i64 0)).frozen? ⟨B + 2, 0, none⟩ = false ∧
                KeepsFrom W3.heap.size W ((w1.setCell ⟨B + 1, 0, none⟩ (.int .i64 0)).setCell ⟨B + 2, 0, none⟩ (.int .i64 (t : Int))) ∧ Keep o W ((w1.setCell ⟨B + 1, 0, none⟩ (.int .i64 0)).setCell ⟨B + 2, 0, none⟩ (.int .i64 (t : Int))) ∧
                ∃ o', InvF w B g r0 (pre ++ [(t, some bs')]) o' ((w1.setCell ⟨B + 1, 0, none⟩ (.int .i64 0)).setCell ⟨B + 2, 0, none⟩ (.int .i64 (t : Int))) ∧ Goes o o' W))) := Lib.hid (by
            intro w1 e hG hout
            have kE : Blk w1 (B + 1) 25 #[.int .i64 0] := h5.grown hG (by intro e; injection e with e; omega)
            have kL : Blk w1 (B + 2) 3 #[.int .i64 (last : Int)] := h6.grown hG (by intro e; injection e with e; omega)
            have kP : Blk w1 B T #[.pointer (some ⟨g, 0, none⟩)] := h4.grown hG (by intro e; injection e with e; omega)
            have kH : Blk w1 h 122 #[.int .i64 (t : Int), .slice A1 bs'.length c1, .bool true] := hx.grown hG (by intro e; injection e with e; omega)
            have kf1 : KeepsFrom W3.heap.size W w1 := keepsFrom_grown' hG fun g' hg' => by injection hg' with hg'; subst hg'; exact (h10 _ h7).2
            have kk1 : Keep o W w1 := keep_grown' hG fun g' hg' => by injection hg' with hg'; subst hg'; exact h7
            have hG1 : w.grownBy w1 (some g) := grown_trans h11 hG (.inl rfl)
            refine ⟨⟨by rw [kE.cell]; rfl, kE.frozen 0⟩, ?_⟩
            unfold PutOut at hout
            rw [HST.out] at HERR
            cases hp : putR r bs' t with
            | error k =>
              rw [hp] at hout hstep
              obtain ⟨he, hk0⟩ := hout
              refine .inl ⟨k, he, hk0, by rw [(kE.store 0 _).cell]; rfl, keepsFrom_trans kf1 (keepsFrom_row kE (by simp [World.setCell]) fun b hb => Below.heap_setCell _ _ _ _ hb), fun _ => False, ⟨rfl, k, hk0, by rw [HST.out, hstep], (kE.store 0 _).same rfl, ?_⟩, fun _ h => h⟩
              exact ⟨hG1.os, hG1.tape, hG1.output, by simpa [World.setCell] using hG1.size, fun b hb hne => (Below.heap_setCell _ ⟨B + 1, 0, none⟩ _ _ (by simp; omega)).trans (hG1.block b hb hne)⟩
            | ok r' =>
              rw [hp] at hout hstep
              obtain ⟨he, d', i', l', hg', hR'⟩ := hout
              have kL2 := kL.far (p := ⟨B + 1, 0, none⟩) (by simp) (.int .i64 0)
              have kH2 := kH.far (p := ⟨B + 1, 0, none⟩) (by simp; omega) (.int .i64 0)
              have kE2 := kE.store 0 (.int .i64 0)
              have hs1 := hG.size
              have hsz : ((w1.setCell ⟨B + 1, 0, none⟩ (.int .i64 0)).setCell ⟨B + 2, 0, none⟩ (.int .i64 (t : Int))).heap.size = w1.heap.size := by simp [World.setCell]
              have hoth : ∀ b, b ≠ B + 1 → b ≠ B + 2 → ((w1.setCell ⟨B + 1, 0, none⟩ (.int .i64 0)).setCell ⟨B + 2, 0, none⟩ (.int .i64 (t : Int))).heap[b]? = w1.heap[b]? := fun b n1 n2 => (Below.heap_setCell _ ⟨B + 2, 0, none⟩ _ _ n2).trans (Below.heap_setCell _ ⟨B + 1, 0, none⟩ _ _ n1)
              refine .inr ⟨he, by rw [kE2.cell]; rfl, by rw [kH2.cell]; rfl, by rw [kL2.cell]; rfl, kL2.frozen 0, keepsFrom_trans (keepsFrom_trans kf1 (keepsFrom_row kE (by simp [World.setCell]) fun b hb => Below.heap_setCell _ _ _ _ hb)) (keepsFrom_row kL2 (by simp [World.setCell]) fun b hb => Below.heap_setCell _ _ _ _ hb),
                kk1.trans ((Keep.setCell _ _ _ h8).trans (Keep.setCell _ _ _ h9)), fun b => o b ∨ (W.heap.size ≤ b ∧ ∃ y, w1.heap[b]? = some y ∧ y.isCells = true), ⟨t, r', by rw [HST.out, hstep], ⟨d', i', l', (hoth g (by omega) (by omega)).trans hg', ?_⟩, ⟨T, (hoth B (by omega) (by omega)).trans kP⟩, (kE2.far (p := ⟨B + 2, 0, none⟩) (by simp) _).same rfl, (kL2.store 0 _).same rfl, ⟨.inl h7, .inl h8, .inl h9⟩, ?_, ?_⟩, ?_⟩
              · have hW4 : B + 4 ≤ W.heap.size := by have := HZ3.out; omega
                refine (hR'.there.kept fun a x ha hx => ?_).mono fun b hb => ?_
                · have h4' : B + 4 ≤ a.block := by
                    rcases ha.1 with h | h
                    · exact h.2
                    · exact Nat.le_trans hW4 h.1
                  exact (World.cell?_of_block (hoth _ (by omega) (by omega))).trans hx
                · rcases hb.1 with h | h
                  · exact ⟨.inl h.1, h.2⟩
                  · exact ⟨.inr ⟨h.1, hb.2⟩, Nat.le_trans hW4 h.1⟩
              · intro b hb
                rcases hb with hb | ⟨hb, y, hy, hyc⟩
                · refine ⟨(h10 b hb).1, ?_⟩
                  by_cases e1 : b = B + 1
                  · subst e1; exact ⟨_, kE2.far (p := ⟨B + 2, 0, none⟩) (by simp) _, rfl⟩
                  · by_cases e2 : b = B + 2
                    · subst e2; exact ⟨_, kL2.store 0 _, rfl⟩
                    · rw [hoth b e1 e2]
                      by_cases e3 : b = g
                      · subst e3; exact ⟨_, hg', rfl⟩
                      · obtain ⟨_, y, hy, hyc⟩ := h10 b hb
                        exact ⟨y, (hG.block b (hol b hb) (by intro e; injection e with e; exact e3 e)).trans hy, hyc⟩
                · have hW4 : B + 4 ≤ W.heap.size := by have := HZ3.out; omega
                  exact ⟨.inr (.inr (.inr (Nat.le_trans hW4 hb))), y, (hoth b (by omega) (by omega)).trans hy, hyc⟩
              · exact ⟨hG1.os, hG1.tape, hG1.output, by rw [hsz]; exact hG1.size, fun b hb hne => (hoth b (by omega) (by omega)).trans (hG1.block b hb hne)⟩
              · intro b hb
                exact hb.imp id fun h => h.1)
          obtain ⟨n1, hn1⟩ : ∃ n1, bs'.length = n1 := ⟨_, rfl⟩
          have hn0 : ((n1 : Int) == 0) = false := by
            have := List.length_pos_iff.2 hnil
            have : ¬ (n1 : Int) = 0 := by omega
            simpa using this
          rw [hn1] at hx cH1 HC
          have HX := Lib.hid hx
          rw [lit38, f2, f5, f6, f7]
          clear hrd h1 hmsg h4 h5 h6 h7 h8 h9 h10 h11 hseq f2 f5 f6 f7 h0 hlen hol hstep hgh hn1 hnil hx
          gi_wp2_with (first
            | (refine wpListIn_load_arr (fun _ => trivial) rfl 122 _ rfl h rfl 122 _ _ HX.out Tryd.underlying122 rfl (by kernel_rfl) ?_)
            | (refine ⟨trivial, rfl, ?_⟩; gi_at_call 68; refine (CallsIn.inRound l HC.out).mono ?_; rintro e w1 ⟨hG, hout⟩; obtain ⟨⟨q1, q1'⟩, (⟨k, rfl, hk0, q2, q3, q4⟩ | ⟨rfl, q2, q3, q4, q5, q6⟩)⟩ := HPOST.out w1 e hG hout <;> clear hout hG))
          · exact ⟨q3, q4⟩
          · exact ⟨q6.1, q6.2.1, q6.2.2⟩
  case done =>
    rintro D' o W hD' ⟨last, r, h1, ⟨d, i, l, h2, h3⟩, ⟨T, h4⟩, h5, h6, h7, h10, h11⟩ hK
    have cE : W.cell? ⟨B + 1, 0, none⟩ = some (.int .i64 0) := by rw [h5.cell]; rfl
    have HD := Lib.hid hK
    have HP : Hid (w.grownBy (W.putObj D' (.deferred none)) (some g) ∧ FieldsOut w g r0 bs (.returned (.int .i64 0)) (W.putObj D' (.deferred none))) := Lib.hid (by
      have hDg : ∀ b, b < B + 4 → b ≠ D' := fun b hb => by omega
      refine ⟨⟨h11.os, h11.tape, h11.output, by simpa [World.putObj] using h11.size, fun b hb hne => (World.putObj_heap_other (hDg b (by omega))).trans (h11.block b hb hne)⟩, ?_⟩
      unfold FieldsOut
      rw [h1]
      refine ⟨rfl, d, i, l, (World.putObj_heap_other (hDg g (by omega))).trans h2, (h3.kept fun a x _ h => cell_putObj hK rfl _ h).mono fun b hb => ⟨by omega, ?_⟩⟩
      obtain ⟨_, x, hx, _⟩ := h10 b hb.1
      have := (Array.getElem?_eq_some_iff.1 hx).1
      simpa [World.putObj] using this)
    clear h1 h2 h3 h4 h5 h6 h7 h10 h11 hK hseq h0
    gi_wp2
    refine ⟨by simp, .inl ⟨_, _, rfl, run_takeDeferred HD.out, ?_⟩⟩
    exact ⟨_, results_tmp (t := 4) rfl _ _ _, HP.out⟩
  case stop =>
    rintro D' c' pre o W hD' hpre hne ⟨⟨rfl, k, hk0, h1, h2, h3⟩, _⟩ hK
    have cE : W.cell? ⟨B + 1, 0, none⟩ = some (.int .i64 (k : Int)) := by rw [h2.cell]; rfl
    have HD := Lib.hid hK
    have HP : Hid (w.grownBy (W.putObj D' (.deferred none)) (some g) ∧ FieldsOut w g r0 bs (.returned (.int .i64 (k : Int))) (W.putObj D' (.deferred none))) := Lib.hid (by
      refine ⟨⟨h3.os, h3.tape, h3.output, by simpa [World.putObj] using h3.size, fun b hb hne => (World.putObj_heap_other (by omega)).trans (h3.block b hb hne)⟩, ?_⟩
      unfold FieldsOut
      rw [foldR_prefix h1 hpre]
      exact ⟨rfl, hk0⟩)
    clear h1 h2 h3 hK hseq h0
    gi_wp2
    refine ⟨by simp, .inl ⟨_, _, rfl, run_takeDeferred HD.out, ?_⟩⟩
    exact ⟨_, results_tmp (t := 4) rfl _ _ _, HP.out⟩
end Go.Proofs.YtkbdkeclbokhdaaDoor
