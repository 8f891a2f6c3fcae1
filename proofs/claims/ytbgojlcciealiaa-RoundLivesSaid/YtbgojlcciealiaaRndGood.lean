/-
  One's way to agreement, as plain mathematics: the numbers stay such as they may be, whatever is done; what is kept by each step is kept by all. Nothing here speaks of the program. No condition.
-/
import Derived.Test.YtbgojlcciealiaaRndGive
namespace Go.Proofs.Ytbgojlcciealiaa
open Go Go.RowKit Go.Maps

def VtsOk (V : Vt) : Prop := ∀ r k q x, V r k q = some x → IdOk x ∧ x ≠ zeroId
structure GoodS (s : RdS) : Prop where
  ok : RdOk s
  vts : VtsOk s.votes
theorem put_vts {n : Int} {V : Vt} (h : VtsOk V) (r k q : Int) {id : List UInt8} (hid : IdOk id) : VtsOk (putT n V r k q id) := by
  intro r' k' q' x hx
  unfold putT at hx
  split at hx
  · rename_i hc
    unfold putC at hx
    split at hx
    · injection hx with hx
      subst hx
      refine ⟨hid, fun e => ?_⟩
      subst e
      have := hc.1
      unfold okPut at this
      simp at this
    · exact h _ _ _ _ hx
  · exact h _ _ _ _ hx
theorem sureO_vote {n : Nat} {V : Vt} {r k : Int} {x : List UInt8} (h : sureO n V r k = some x) : ∃ q : Nat, q < n ∧ V r k (q : Int) = some x := by
  unfold sureO at h
  rw [Option.map_eq_some_iff] at h
  obtain ⟨⟨i, y⟩, hy, rfl⟩ := h
  have hm := List.mem_of_find?_eq_some hy
  unfold castL at hm
  rw [List.mem_filterMap] at hm
  obtain ⟨j, hj, he⟩ := hm
  rw [Option.map_eq_some_iff] at he
  obtain ⟨z, hz, he⟩ := he
  injection he with e1 e2
  subst e1 e2
  exact ⟨_, List.mem_range.1 hj, hz⟩
theorem sureS_some {s : RdS} {r k : Int} {x : List UInt8} (h : sureS s r k = some x) : sureO s.voters s.votes r k = some x ∧ x ≠ nilId ∧ hasI s.known x = true := by
  unfold sureS at h
  split at h
  · cases h
  · rename_i id hid
    split at h
    · cases h
    · rename_i hc
      injection h with h
      subst h
      rw [Bool.or_eq_true, Bool.not_eq_true', not_or] at hc
      refine ⟨hid, fun e => ?_, ?_⟩
      · subst e
        exact hc.1 (by simp)
      · cases hh : hasI s.known id with
        | true => rfl
        | false => exact absurd hh hc.2
theorem GoodS.sure {s : RdS} (h : GoodS s) {r k : Int} {x : List UInt8} (hx : sureS s r k = some x) : IdOk x ∧ x ≠ zeroId := by
  obtain ⟨q, _, hq⟩ := sureO_vote (sureS_some hx).1
  exact h.vts _ _ _ _ hq
theorem cast_goodS {s : RdS} (h : GoodS s) (k : Int) (hr : 0 ≤ s.round) {id : List UInt8} (hid : IdOk id) : GoodS (castS s k id) :=
  ⟨⟨h.ok.voters, h.ok.me, h.ok.height, h.ok.round, ⟨(behS_le k).1, (behS_le k).2.1⟩, fun e => by have : s.round = -1 := e; omega, h.ok.fresh, h.ok.lockR, h.ok.lock, h.ok.bestR, h.ok.best, h.ok.known, h.ok.le, h.ok.offers⟩, put_vts h.vts _ _ _ hid⟩
theorem timer_goodS {s : RdS} (h : GoodS s) (k t : Nat) : GoodS (timerS s k t) := by
  unfold timerS
  split
  · exact h
  · exact ⟨⟨h.ok.voters, h.ok.me, h.ok.height, h.ok.round, h.ok.step, h.ok.early, h.ok.fresh, h.ok.lockR, h.ok.lock, h.ok.bestR, h.ok.best, h.ok.known, h.ok.le, h.ok.offers⟩, h.vts⟩
theorem over_goodS {s : RdS} (h : GoodS s) : GoodS (overS s) :=
  ⟨⟨h.ok.voters, h.ok.me, h.ok.height, h.ok.round, ⟨by show (0 : Int) ≤ 3; omega, by show (3 : Int) ≤ 3; omega⟩, fun _ => rfl, h.ok.fresh, h.ok.lockR, h.ok.lock, h.ok.bestR, h.ok.best, h.ok.known, h.ok.le, h.ok.offers⟩, h.vts⟩
theorem in_goodS {s : RdS} (h : GoodS s) {m : Int} (h0 : 0 ≤ m) (h1 : m < 12) (h2 : s.round < m) : GoodS (inS s m) :=
  ⟨⟨h.ok.voters, h.ok.me, h.ok.height, ⟨by show -1 ≤ m; omega, h1⟩, ⟨by show (0 : Int) ≤ 0; omega, by show (0 : Int) ≤ 3; omega⟩, fun e => by have : m = -1 := e; omega, h.ok.fresh, h.ok.lockR, h.ok.lock, h.ok.bestR, h.ok.best, h.ok.known, by show s.bestR ≤ m + 1; have := h.ok.le; omega, h.ok.offers⟩, h.vts⟩
theorem propS_valid {s : RdS} (h : RdOk s) : 0 ≤ (propS s).valid ∧ (propS s).valid ≤ s.round + 1 := by
  have := h.bestR
  have := h.le
  have := h.round
  unfold propS
  split
  · exact ⟨this.1 |> fun _ => by show 0 ≤ s.bestR; omega, by show s.bestR ≤ s.round + 1; omega⟩
  · exact ⟨by show (0 : Int) ≤ 0; omega, by show (0 : Int) ≤ s.round + 1; omega⟩
theorem off_goodS {s : RdS} (h : GoodS s) {k : Nat} {o : OfferS} (ho : IdOk o.id) (h0 : 0 ≤ o.valid) (h1 : o.valid ≤ (k : Int)) : GoodS (offS s k o) :=
  ⟨⟨h.ok.voters, h.ok.me, h.ok.height, h.ok.round, h.ok.step, h.ok.early, h.ok.fresh, h.ok.lockR, h.ok.lock, h.ok.bestR, h.ok.best, h.ok.known, h.ok.le, fun j hj => by
    show IdOk (if j = k then o else s.offers j).id ∧ 0 ≤ (if j = k then o else s.offers j).valid ∧ (if j = k then o else s.offers j).valid ≤ j
    by_cases e : j = k
    · rw [if_pos e]
      subst e
      exact ⟨ho, h0, h1⟩
    · rw [if_neg e]
      exact h.ok.offers j hj⟩, h.vts⟩
theorem begin_goodS {s : RdS} (h : GoodS s) {m : Int} (h2 : s.round < m) : GoodS (beginS s m) := by
  unfold beginS
  split
  · rename_i hm
    have hi := in_goodS h hm.1 hm.2 h2
    split
    · exact timer_goodS hi _ _
    split
    · exact hi
    split
    · exact timer_goodS hi _ _
    · have hv := propS_valid h.ok
      exact off_goodS hi (propS_ok h.ok) hv.1 (by omega)
  · exact over_goodS h
theorem best_goodS {s : RdS} (h : GoodS s) {id : List UInt8} (hid : IdOk id) (hr : 0 ≤ s.round) : GoodS (bestS s id) := ⟨best_ok h.ok hid hr, h.vts⟩
theorem better_goodS {s : RdS} (h : GoodS s) {id : List UInt8} (hid : IdOk id) (hr : 0 ≤ s.round) : GoodS (betterS s id) := by
  unfold betterS
  split
  · exact cast_goodS ⟨lock_ok (best_goodS h hid hr).ok, h.vts⟩ _ hr hid
  · exact best_goodS h hid hr
theorem choice_ok {s : RdS} (h : GoodS s) {id : List UInt8} (hr : 0 ≤ s.round) (hc : choiceS s = some id) : IdOk id := by
  unfold choiceS at hc
  have hr2 := h.ok.round.2
  have ho := h.ok.offers s.round.toNat (by omega)
  split at hc
  · cases hc
  dsimp only at hc
  split at hc
  · cases hc
  split at hc
  · injection hc with hc
    subst hc
    exact nilId_ok
  split at hc
  · cases hc
  split at hc
  · injection hc with hc
    subst hc
    exact nilId_ok
  · injection hc with hc
    subst hc
    exact ho.1
/-- What is done next: one of these. -/
inductive Step : RdS → List ActS → RdS → Prop
  | done {s : RdS} {k : Nat} {id : List UInt8} : k < 12 → sureS s (k : Int) 1 = some id → Step s [⟨4, (k : Int), 0, 0, id⟩] (overS s)
  | begins {s : RdS} {m : Int} : s.round < m → Step s (beginA s m) (beginS s m)
  | early {s : RdS} {id : List UInt8} : 0 ≤ s.round → IdOk id → s.step = 0 → (id = nilId ∨ choiceS s = some id) → Step s (castA s 0 id) (castS s 0 id)
  | better {s : RdS} {id : List UInt8} : 0 ≤ s.round → IdOk id → sure0 s = some id → Step s (betterA s id) (betterS s id)
  | late {s : RdS} : 0 ≤ s.round → s.step = 1 → Step s (castA s 1 nilId) (castS s 1 nilId)
  | timer {s : RdS} {t : Nat} : 0 ≤ s.round → t < 3 → Step s (timerA s s.round.toNat t) (timerS s s.round.toNat t)
theorem agreed_at {s : RdS} {k : Nat} {id : List UInt8} (h : agreedS s = some (k, id)) : k < 12 ∧ sureS s (k : Int) 1 = some id := by
  unfold agreedS at h
  obtain ⟨j, hj, he⟩ := List.exists_of_findSome?_eq_some h
  rw [Option.map_eq_some_iff] at he
  obtain ⟨x, hx, he⟩ := he
  injection he with e1 e2
  subst e1 e2
  exact ⟨List.mem_range.1 hj, hx⟩
theorem next_step {s s' : RdS} {l : List ActS} (hg : GoodS s) (hr : 0 ≤ s.round) (h : nextS s = some (s', l)) : Step s l s' := by
  unfold nextS at h
  split at h
  · rename_i k id ha
    injection h with h
    injection h with e1 e2
    subst e1 e2
    obtain ⟨h1, h2⟩ := agreed_at ha
    exact .done h1 h2
  split at h
  · rename_i m ha
    injection h with h
    injection h with e1 e2
    subst e1 e2
    exact .begins (ahead_in ha).1
  split at h
  · rename_i x hc
    injection h with h
    injection h with e1 e2
    subst e1 e2
    exact .early hr (choice_ok hg hr hc) (choice_step hc) (.inr hc)
  split at h
  · rename_i x hc
    injection h with h
    injection h with e1 e2
    subst e1 e2
    exact .better hr (hg.sure (sure0_step hc).2.2).1 hc
  split at h
  · rename_i hn
    injection h with h
    injection h with e1 e2
    subst e1 e2
    unfold nilDue at hn
    simp only [Bool.and_eq_true, decide_eq_true_eq] at hn
    exact .late hr hn.1
  · cases h
theorem step_goodS {s s' : RdS} {l : List ActS} (hg : GoodS s) (h : Step s l s') : GoodS s' := by
  cases h with
  | done h1 h2 => exact over_goodS hg
  | begins h1 => exact begin_goodS hg h1
  | early h1 h2 h3 h4 => exact cast_goodS hg _ h1 h2
  | better h1 h2 h3 => exact better_goodS hg h2 h1
  | late h1 h2 => exact cast_goodS hg _ h1 nilId_ok
  | timer h1 h2 => exact timer_goodS hg _ _
theorem step_round {s s' : RdS} {l : List ActS} (hr : 0 ≤ s.round) (h : Step s l s') : 0 ≤ s'.round := by
  cases h with
  | done h1 h2 => exact hr
  | begins h1 =>
    unfold beginS
    split
    · rename_i hm
      split
      · rw [timerS_round]; exact hm.1
      split
      · exact hm.1
      split
      · rw [timerS_round]; exact hm.1
      · exact hm.1
    · exact hr
  | early h1 h2 h3 h4 => exact hr
  | better h1 h2 h3 =>
    unfold betterS
    split <;> exact hr
  | late h1 h2 => exact hr
  | timer h1 h2 => rw [timerS_round]; exact hr
/-- Acts one after the other: what is asked of each, with a book that is kept. -/
def Acts {γ : Type} (up : γ → ActS → γ) (ok : γ → ActS → Prop) : γ → List ActS → Prop
  | _, [] => True
  | g, a :: l => ok g a ∧ Acts up ok (up g a) l
theorem acts_append {γ : Type} {up : γ → ActS → γ} {ok : γ → ActS → Prop} : ∀ {l m : List ActS} {g : γ}, Acts up ok g l → Acts up ok (l.foldl up g) m → Acts up ok g (l ++ m)
  | [], _, _, _, h => h
  | _ :: l, _, _, h1, h => ⟨h1.1, acts_append (l := l) h1.2 h⟩
/-- What each step keeps, settling keeps. -/
theorem settleF_keeps {γ : Type} {up : γ → ActS → γ} {ok : γ → ActS → Prop} (I : RdS → γ → Prop)
    (hstep : ∀ s l s' g, GoodS s → s.step ≠ 3 → Step s l s' → I s g → Acts up ok g l ∧ I s' (l.foldl up g)) :
    ∀ (f : Nat) (s : RdS) (g : γ), GoodS s → (s.step ≠ 3 → 0 ≤ s.round) → mu s < f → I s g → GoodS (settleF f s).1 ∧ (Acts up ok g (settleF f s).2 ∧ I (settleF f s).1 ((settleF f s).2.foldl up g)) := by
  intro f
  induction f with
  | zero => intro s g hg hr hm _; omega
  | succ f ih =>
    intro s g hg hr hm hI
    by_cases hs : s.step = 3
    · rw [settleF_over _ hs]
      exact ⟨hg, trivial, hI⟩
    · have hr0 := hr hs
      cases hn : nextS s with
      | none =>
        rw [settleF_none f hs hn]
        show GoodS (waitS s) ∧ (Acts up ok g (wA1 s ++ wA2 (wS1 s)) ∧ I (wS2 (wS1 s)) ((wA1 s ++ wA2 (wS1 s)).foldl up g))
        have h1 : GoodS (wS1 s) ∧ (wS1 s).step ≠ 3 ∧ 0 ≤ (wS1 s).round ∧ Acts up ok g (wA1 s) ∧ I (wS1 s) ((wA1 s).foldl up g) := by
          unfold wS1 wA1
          split
          · have ht := timerS_step s s.round.toNat 1
            have hst := hstep s _ _ g hg hs (.timer (t := 1) hr0 (by omega)) hI
            exact ⟨timer_goodS hg _ _, by rw [ht.1]; exact hs, by rw [ht.2.1]; exact hr0, hst.1, hst.2⟩
          · exact ⟨hg, hs, hr0, trivial, hI⟩
        obtain ⟨g1, s1, r1, a1, i1⟩ := h1
        have h2 : GoodS (wS2 (wS1 s)) ∧ Acts up ok ((wA1 s).foldl up g) (wA2 (wS1 s)) ∧ I (wS2 (wS1 s)) ((wA2 (wS1 s)).foldl up ((wA1 s).foldl up g)) := by
          unfold wS2 wA2
          split
          · have hst := hstep _ _ _ _ g1 s1 (.timer (t := 2) r1 (by omega)) i1
            exact ⟨timer_goodS g1 _ _, hst.1, hst.2⟩
          · exact ⟨g1, trivial, i1⟩
        obtain ⟨g2, a2, i2⟩ := h2
        rw [List.foldl_append]
        exact ⟨g2, acts_append a1 a2, i2⟩
      | some p =>
        obtain ⟨s', l⟩ := p
        rw [settleF_some f hs hn]
        have hst := next_step hg hr0 hn
        obtain ⟨a1, i1⟩ := hstep _ _ _ _ hg hs hst hI
        obtain ⟨g2, a2, i2⟩ := ih s' (l.foldl up g) (step_goodS hg hst) (fun _ => step_round hr0 hst) (by have := next_mu hg.ok hr0 hs hn; omega) i1
        show GoodS (settleF f s').1 ∧ (Acts up ok g (l ++ (settleF f s').2) ∧ I (settleF f s').1 ((l ++ (settleF f s').2).foldl up g))
        rw [List.foldl_append]
        exact ⟨g2, acts_append a1 a2, i2⟩
theorem early_round {s : RdS} (h : RdOk s) (hs : s.step ≠ 3) : 0 ≤ s.round := by
  have := h.round
  have := h.early
  have : s.round ≠ -1 := fun e => hs (this e)
  omega
theorem settle_keeps {γ : Type} {up : γ → ActS → γ} {ok : γ → ActS → Prop} (I : RdS → γ → Prop)
    (hstep : ∀ s l s' g, GoodS s → s.step ≠ 3 → Step s l s' → I s g → Acts up ok g l ∧ I s' (l.foldl up g)) {s : RdS} {g : γ} (hg : GoodS s) (hI : I s g) : GoodS (settleS s) ∧ (Acts up ok g (settleA s) ∧ I (settleS s) ((settleA s).foldl up g)) :=
  settleF_keeps I hstep 200 s g hg (early_round hg.ok) (mu_lt hg.ok) hI
end Go.Proofs.Ytbgojlcciealiaa
