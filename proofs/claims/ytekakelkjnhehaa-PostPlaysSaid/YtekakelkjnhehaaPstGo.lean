/-
  Layer 21: the messages behind the first so many. In whatever memory. No condition.
-/
import Derived.Test.YtekakelkjnhehaaPstFn
namespace Go.Proofs.Ytekakelkjnhehaa
open Go Go.RowKit

set_option maxRecDepth 100000 in
set_option maxHeartbeats 1000000 in
theorem cloneM_any {ok : Nat → Prop} {A : Option Addr} {n c : Nat} {l : List MailS} {w : World} (h : RdM w ok (.slice A n c) l) (hok : ∀ b, ok b → b < w.heap.size) (hn : n ≤ 1000000) :
    Calls Try.prog 35 #[.slice A n c] w fun e w' => ∃ A' c', e = .returned (.slice A' n c') ∧ RdM w' (fun b => (ok b ∨ w.heap.size ≤ b) ∧ b < w'.heap.size) (.slice A' n c') l ∧ Below w.heap.size w w' := by
  cases A with
  | none =>
    have hl : n = 0 ∧ l = [] := by
      obtain ⟨p, rfl, ⟨h0, A', c', hv, h1, h2, h3⟩, h4⟩ := h
      obtain ⟨q1, rfl, rfl⟩ := Value.slice.inj hv
      rcases Nat.eq_zero_or_pos (p.map fun q => mC q.1 q.2).length with hz | hz
      · exact ⟨hz, by rw [List.length_map] at hz; rw [List.eq_nil_of_length_eq_zero hz]; rfl⟩
      · obtain ⟨ad, e, _⟩ := h3 hz
        rw [← q1] at e
        cases e
    obtain ⟨rfl, rfl⟩ := hl
    have heq : ∀ w', (binOp .eql 24 (.slice none 0 c) (.slice none 0 0)).run Try.prog w' = .ok (.bool true) w' := fun w' => Lib.run_eql_slice_nil w' 24 48 none 0 c 0 0 Try.underlying24
    clear h hok
    go_enter Try.func35, Try.ntmps35
    go_wp2
    go_ret
    exact ⟨none, 0, rfl, RdM.nil _ _ 0, Below.refl _ _⟩
  | some ad =>
    have heq : ∀ w', (binOp .eql 24 (.slice (some ad) n c) (.slice none 0 0)).run Try.prog w' = .ok (.bool false) w' := fun w' => Lib.run_eql_slice_nil w' 24 48 (some ad) n c 0 0 Try.underlying24
    obtain ⟨p, rfl, h2, h3⟩ := h
    have hb0 : Below w.heap.size w (w.alloc (.cells #[] 48)) := (Below.refl _ _).alloc (Nat.le_refl _) _
    have own0 : (w.alloc (.cells #[] 48)).ownsRow w.heap.size 48 5 (.slice (some ⟨w.heap.size, 0, none⟩) 0 0) 0 ([] : List (List Value)).flatten := ⟨rfl, .inr ⟨w.heap.size, 0, #[], rfl, Nat.le_refl _, heap_alloc_new w _, Nat.le_refl _, by unfold maxLen; omega, rfl, rfl⟩⟩
    have hlen := (h2.first (P := Try.prog) (by omega)).2
    obtain ⟨v', w', hrun, hown', hgr, _⟩ := app_own elMail (w := w.alloc (.cells #[] 48)) (B := w.heap.size) (by simp) own0 (h2.kept fun a x ha h => (hb0.cell (p := a) (hok _ ha)).trans h) (by omega)
    rw [List.nil_append, Nat.zero_add] at hown'
    have hb : Below w.heap.size w w' := hb0.grown hgr (by simp) fun k hk => by
      simp only [Value.ownBlock, Option.some.injEq] at hk
      omega
    have hrd : RdM w' (fun b => (ok b ∨ w.heap.size ≤ b) ∧ b < w'.heap.size) v' (p.map (·.1)) := ⟨p, rfl, (rdC_own hown' h2.1 hlen.symm hn).mono fun b hb => ⟨.inr hb.1, hb.2.1⟩, fun q hq => ((h3 q hq).kept fun a x ha hx => (hb.cell (p := a) (hok _ ha)).trans hx).mono fun b hb' => ⟨.inl hb', Nat.lt_of_lt_of_le (hok b hb') hb.size⟩⟩
    obtain ⟨A', c', rfl, _⟩ := own_len hown'
    have HR := Lib.hid hrun
    have HB := Lib.hid hb
    have HRD := Lib.hid hrd
    clear hrun hb hrd hown' hgr own0 hb0 h2 h3 hlen hok
    go_enter Try.func35, Try.ntmps35
    go_wp2_with (at_builtin; refine wpList_append_run rfl (.tmp 5) (.tmp 6) _ _ rfl _ _ rfl rfl _ _ HR.out ?_)
    go_ret
    exact ⟨A', c', rfl, HRD.out, HB.out⟩
set_option maxRecDepth 100000 in
set_option maxHeartbeats 1000000 in
theorem postGoOn_any {Y ok2 : Nat → Prop} {g : Nat} {l l2 : List MailS} (k : Nat) {A2 : Option Addr} {n2 c2 : Nat} {w : World} (h : PostAt w Y g l) (hk : k ≤ l.length) (h2 : RdM w ok2 (.slice A2 n2 c2) l2) (hok : ∀ b, ok2 b → b < w.heap.size ∧ b ≠ g) (hle : k + n2 ≤ 600) :
    Calls Try.prog 24 #[.pointer (some ⟨g, 0, none⟩), .int .i64 (k : Int), .slice A2 n2 c2] w fun e w' => e = .returned (.tuple #[]) ∧ ∃ Y', PostAt w' Y' g (l.take k ++ l2) ∧ Turn (fun i => i = g) w w' ∧ ∀ i, Y' i → Y i ∨ ok2 i ∨ w.heap.size ≤ i := by
  obtain ⟨v, h1, h3, h4, h5, h6⟩ := h
  obtain ⟨A, c, rfl, hc⟩ := h3.form
  obtain ⟨n, hn⟩ : ∃ n, l.length = n := ⟨_, rfl⟩
  have hl2 : l2.length = n2 := by
    obtain ⟨A', c', e, _⟩ := h2.form
    exact (Value.slice.inj e).2.1.symm
  rw [hn] at h1 h3 hc hk
  have hf := h3.take hk (Nat.le_refl k)
  have h3s := fun w' => run_slice_thirdC elMail A n c k (by omega) w'
  have hlen : (l.take k ++ l2).length ≤ 600 := by rw [List.length_append, List.length_take, hl2]; omega
  have hgl := h1.lt
  have c0 := h1.cell 0
  simp at c0
  by_cases h0 : n2 = 0
  · subst h0
    have hl0 : l2 = [] := List.eq_nil_of_length_eq_zero hl2
    subst hl0
    have HC := Lib.hid (cloneM_any hf (fun b hb => h5 b hb.1) (by omega))
    have HK := Lib.hid h1
    have HH := Lib.hid (And.intro h4 (And.intro h5 hlen))
    have HN := Lib.hid hgl
    clear h1 h3 h2 hok hf h4 h5 h6 hn hl2 hlen hle hgl
    go_enter Try.func24, Try.ntmps24
    go_wp2_with (first
      | (go_at_call 35; refine HC.out.mono ?_; rintro e W1 ⟨A1, c1, rfl, hr1, hb1⟩; have hap := app_none (P := Try.prog) (w := W1) (ok := fun _ => True) elMail (A := A1) (A' := A2) (n := k) (c := c1) (c' := c2) (by obtain ⟨_, _, e, h⟩ := hr1.form; have := (Value.slice.inj e).2.1; have := (Value.slice.inj e).2.2; omega) (RdC.empty _ _ _ _); have hk1 := HK.out.below hb1 HN.out; have hd1 := hk1.cell 0; have hf1 := hk1.frozen 0; simp at hd1; have HR1 := Lib.hid hr1; have HB1 := Lib.hid hb1; clear hr1 hb1)
      | (at_builtin; refine wpList_append_run rfl (.tmp 20) (.tmp 21) _ _ rfl _ _ rfl rfl _ _ hap ?_))
    go_end0
    refine ⟨rfl, _, PostAt.put (HK.out.below HB1.out HN.out) ((List.append_nil (l.take k)).symm ▸ HR1.out) (fun b hb => ⟨hb.2, ?_⟩) HH.out.2.2, Turn.setCell (S := fun i => i = g) (Turn.of_new HB1.out _) (fun _ => rfl) _, fun i hi => ?_⟩
    · rcases hb.1 with h | h
      · exact h.2
      · have := HN.out
        omega
    · rcases hi with rfl | ⟨hi | hi, _⟩
      · exact .inl HH.out.1
      · exact .inl hi.1
      · exact .inr (.inr hi)
  · have hz : ((n2 : Int) == 0) = false := by rw [beq_eq_false_iff_ne]; omega
    obtain ⟨cap, w1, hrun, hrd, hb1⟩ := appM_full hf h2 (by omega) (by omega) (fun b hb => h5 b hb.1) (fun b hb => (hok b hb).1)
    have hk1 := h1.below hb1 hgl
    have hd1 := hk1.cell 0
    have hf1 := hk1.frozen 0
    simp at hd1
    have HR := Lib.hid hrun
    have HK := Lib.hid hk1
    have HE := Lib.hid (And.intro hrd hb1)
    have HH := Lib.hid (And.intro h4 (And.intro hok (And.intro hlen hgl)))
    clear h1 h3 h2 hok hf h4 h5 h6 hn hl2 hlen hle hgl hrun hrd hb1 hk1
    go_enter Try.func24, Try.ntmps24
    go_wp2_with (at_builtin; refine wpList_append_run rfl (.tmp 20) (.tmp 21) _ _ rfl _ _ rfl rfl _ _ HR.out ?_)
    go_end0
    refine ⟨rfl, _, PostAt.put HK.out HE.out.1 (fun b hb => ⟨hb.2, ?_⟩) HH.out.2.2.1, Turn.setCell (S := fun i => i = g) (Turn.of_new HE.out.2 _) (fun _ => rfl) _, fun i hi => ?_⟩
    · rcases hb.1 with h | h | h
      · exact h.2
      · exact (HH.out.2.1 b h).2
      · have := HH.out.2.2.2
        omega
    · rcases hi with rfl | ⟨hi | hi | hi, _⟩
      · exact .inl HH.out.1
      · exact .inl hi.1
      · exact .inr (.inl hi)
      · exact .inr (.inr hi)
end Go.Proofs.Ytekakelkjnhehaa
