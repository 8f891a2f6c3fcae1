/-
  One's way to agreement, as plain mathematics: who is locked votes early for nothing else, unless that is sure. Nothing here speaks of the program. No condition.
-/
import Derived.Test.YtclhfokflagopaaRndMQuiet
namespace Go.Proofs.Ytclhfokflagopaa
open Go Go.RowKit Go.Maps

theorem putT_far {n : Int} {V : Vt} {r k q : Int} {id : List UInt8} {r' k' q' : Int} (h : ¬ (r' = r ∧ k' = k ∧ q' = q)) : putT n V r k q id r' k' q' = V r' k' q' := by
  unfold putT
  split
  · unfold putC
    rw [if_neg h]
  · rfl
theorem putT_bad {n : Int} {V : Vt} {r k q : Int} {id : List UInt8} (h : putCode n V r k q id ≠ 0) : putT n V r k q id = V := by
  unfold putT
  rw [if_neg]
  rintro ⟨h1, h2⟩
  unfold putCode at h
  rw [h1, h2] at h
  simp at h
theorem filterMap_alike {α β : Type} {f g : α → Option β} : ∀ (l : List α), (∀ x ∈ l, f x = g x) → l.filterMap f = l.filterMap g
  | [], _ => rfl
  | a :: l, h => by
    rw [List.filterMap_cons, List.filterMap_cons, h a List.mem_cons_self, filterMap_alike l (fun x hx => h x (List.mem_cons_of_mem _ hx))]
theorem countP_alike {α : Type} {f g : α → Bool} : ∀ (l : List α), (∀ x ∈ l, f x = g x) → l.countP f = l.countP g
  | [], _ => rfl
  | a :: l, h => by
    rw [List.countP_cons, List.countP_cons, h a List.mem_cons_self, countP_alike l (fun x hx => h x (List.mem_cons_of_mem _ hx))]
theorem sureO_row {n : Nat} {V V' : Vt} {r k : Int} (h : ∀ q : Nat, q < n → V r k (q : Int) = V' r k (q : Int)) : sureO n V r k = sureO n V' r k := by
  have h1 : castL n V r k = castL n V' r k := by
    unfold castL
    refine filterMap_alike _ fun q hq => ?_
    rw [h q (List.mem_range.1 hq)]
  have h2 : ∀ id, forN n V r k id = forN n V' r k id := fun id => by
    unfold forN
    refine countP_alike _ fun q hq => ?_
    rw [h q (List.mem_range.1 hq)]
  unfold sureO
  rw [h1]
  congr 1
  congr 1
  funext p
  rw [h2]
/-- One's own votes: none of rounds to come, nor of steps to come. -/
structure OwnV (s : RdS) : Prop where
  later : ∀ r k, s.round < r → s.votes r k s.me = none
  step0 : s.step = 0 → s.votes s.round 0 s.me = none ∧ s.votes s.round 1 s.me = none
  step1 : s.step = 1 → s.votes s.round 1 s.me = none
theorem begin_votes (s : RdS) (m : Int) : (beginS s m).votes = s.votes ∧ (beginS s m).voters = s.voters ∧ (beginS s m).me = s.me ∧ (beginS s m).lockR = s.lockR ∧ (beginS s m).lock = s.lock := by
  have ht : ∀ k t, (timerS (inS s m) k t).votes = s.votes ∧ (timerS (inS s m) k t).voters = s.voters ∧ (timerS (inS s m) k t).me = s.me ∧ (timerS (inS s m) k t).lockR = s.lockR ∧ (timerS (inS s m) k t).lock = s.lock := fun k t => by
    unfold timerS
    split <;> exact ⟨rfl, rfl, rfl, rfl, rfl⟩
  unfold beginS
  repeat' split
  all_goals first | exact ht _ _ | exact ⟨rfl, rfl, rfl, rfl, rfl⟩
theorem own_begin {s : RdS} (h : OwnV s) {m : Int} (hm : s.round < m) : OwnV (beginS s m) := by
  obtain ⟨e1, e2, e3, _⟩ := begin_votes s m
  rcases begin_mu (s := s) (m := m) with h3 | ⟨h0, hr, _⟩
  · have hr : (beginS s m).round = s.round ∨ (beginS s m).round = m := by
      unfold beginS
      repeat' split
      all_goals first | (right; rw [timerS_round]; rfl) | (right; rfl) | (left; rfl)
    refine ⟨fun r k hlt => ?_, fun e => by omega, fun e => by omega⟩
    rw [e1, e3]
    exact h.later r k (by omega)
  · refine ⟨fun r k hlt => ?_, fun _ => ?_, fun e => by omega⟩
    · rw [e1, e3]
      exact h.later r k (by omega)
    · rw [e1, e3, hr]
      exact ⟨h.later m 0 hm, h.later m 1 hm⟩
/-- The book of RoundLocks. -/
structure LkG where
  c : Vt
  locked : Int
  lock : List UInt8
def upL (N : Nat) (me : Int) (g : LkG) (a : ActS) : LkG :=
  if a.kind ≠ 2 then g
  else if a.id = nilId then { g with c := putT N g.c a.round a.num me a.id }
  else if a.num = 1 then ⟨putT N g.c a.round a.num me a.id, a.round, a.id⟩
  else { g with c := putT N g.c a.round a.num me a.id }
def okL (N : Nat) (me : Int) (g : LkG) (a : ActS) : Prop := a.kind = 2 → (0 ≤ a.round ∧ a.round < 12) ∧ (a.num = 0 ∨ a.num = 1) ∧ (-1 ≤ g.locked ∧ g.locked < 12) ∧
  (a.id ≠ nilId → (a.num = 1 → sureO N (putT N g.c a.round a.num me a.id) a.round 0 = some a.id) ∧
    (a.num = 0 → g.locked < 0 ∨ g.lock = a.id ∨ ∃ k : Int, g.locked ≤ k ∧ 0 ≤ k ∧ k < a.round ∧ sureO N (putT N g.c a.round a.num me a.id) k 0 = some a.id))
structure LkI (N : Nat) (me : Int) (s : RdS) (g : LkG) : Prop where
  voters : s.voters = N
  me : s.me = me
  c : g.c = s.votes
  own : OwnV s
  range : -1 ≤ g.locked ∧ g.locked < 12
  lock : (g.locked < 0 ∧ s.lockR = 0) ∨ (0 ≤ g.locked ∧ s.lockR = g.locked + 1 ∧ s.lock = g.lock)
theorem up_other {N : Nat} {me : Int} {g : LkG} {a : ActS} (h : a.kind ≠ 2) : upL N me g a = g := if_pos h
theorem acts_other {N : Nat} {me : Int} : ∀ (l : List ActS) (g : LkG), (∀ a ∈ l, a.kind ≠ 2) → Acts (upL N me) (okL N me) g l ∧ l.foldl (upL N me) g = g
  | [], _, _ => ⟨trivial, rfl⟩
  | a :: l, g, h => by
    have ha := h a List.mem_cons_self
    have ih := acts_other (N := N) (me := me) l g (fun b hb => h b (List.mem_cons_of_mem _ hb))
    refine ⟨⟨fun e => absurd e ha, ?_⟩, ?_⟩
    · rw [up_other ha]
      exact ih.1
    · rw [List.foldl_cons, up_other ha]
      exact ih.2
/-- A vote that is cast: what the book says then. -/
theorem cast_lk {N : Nat} {me : Int} {s s1 : RdS} {g : LkG} (hok : RdOk s) (hr : 0 ≤ s.round) (h : LkI N me s g) (k : Int) (hk : k = 0 ∨ k = 1) (id : List UInt8)
    (e1 : s1.voters = s.voters) (e2 : s1.me = s.me) (e3 : s1.votes = s.votes) (e4 : s1.round = s.round)
    (hfree : putCode s.voters s.votes s.round k s.me id = 0 → id ≠ nilId → (k = 1 → sureO s.voters s.votes s.round 0 = some id ∧ s1.lockR = s.round + 1 ∧ s1.lock = id) ∧
      (k = 0 → (g.locked < 0 ∨ g.lock = id ∨ ∃ j : Int, g.locked ≤ j ∧ 0 ≤ j ∧ j < s.round ∧ sureO s.voters s.votes j 0 = some id)))
    (hlk : (putCode s.voters s.votes s.round k s.me id = 0 → id ≠ nilId → k = 0) → s1.lockR = s.lockR ∧ s1.lock = s.lock)
    (hstep : s.step = 0 ∨ (s.step = 1 ∧ k = 1)) :
    Acts (upL N me) (okL N me) g (castA s1 k id) ∧ LkI N me (castS s1 k id) ((castA s1 k id).foldl (upL N me) g) := by
  have hown := h.own
  have hN := h.voters
  have hme := h.me
  have hc := h.c
  have hvs : (castS s1 k id).votes = putT s.voters s.votes s.round k s.me id := by
    show putT s1.voters s1.votes s1.round k s1.me id = _
    rw [e1, e2, e3, e4]
  have hown' : OwnV (castS s1 k id) := by
    have hbeh : (castS s1 k id).step = behS k := rfl
    have hrd : (castS s1 k id).round = s.round := e4
    have hmm : (castS s1 k id).me = s.me := e2
    refine ⟨fun r j hlt => ?_, fun e => ?_, fun e => ?_⟩
    · rw [hvs, hmm, putT_far (by rw [hrd] at hlt; omega)]
      exact hown.later r j (by omega)
    · rw [hbeh] at e
      unfold behS at e
      split at e <;> omega
    · rw [hbeh] at e
      have hk0 : k = 0 := by
        unfold behS at e
        split at e
        · assumption
        · omega
      rw [hvs, hmm, hrd, putT_far (by omega)]
      rcases hstep with h0 | ⟨_, h1⟩
      · exact (hown.step0 h0).2
      · omega
  have hsure : ∀ j : Int, (j ≠ s.round ∨ k ≠ 0) → sureO s.voters (putT s.voters s.votes s.round k s.me id) j 0 = sureO s.voters s.votes j 0 := fun j hj => sureO_row fun q _ => putT_far (by rintro ⟨a, b, _⟩; rcases hj with hj | hj <;> omega)
  by_cases hp : putCode s.voters s.votes s.round k s.me id = 0
  · have ea : castA s1 k id = [⟨2, s.round, k, 0, id⟩] := by
      unfold castA
      rw [e1, e2, e3, e4, if_pos hp]
    rw [ea]
    have hup : upL N me g ⟨2, s.round, k, 0, id⟩ = if id = nilId then { g with c := putT s.voters s.votes s.round k s.me id } else if k = 1 then ⟨putT s.voters s.votes s.round k s.me id, s.round, id⟩ else { g with c := putT s.voters s.votes s.round k s.me id } := by
      unfold upL
      rw [if_neg (fun e => e rfl)]
      dsimp only
      rw [hc, ← hN, ← hme]
    refine ⟨⟨fun _ => ⟨⟨hr, hok.round.2⟩, hk, h.range, fun hne => ⟨fun hk1 => ?_, fun hk0 => ?_⟩⟩, trivial⟩, ?_⟩
    · dsimp only at hk1 hne ⊢
      rw [hc, ← hN, ← hme, hsure s.round (.inr (by omega))]
      exact ((hfree hp hne).1 hk1).1
    · dsimp only at hk0 hne ⊢
      rcases (hfree hp hne).2 hk0 with h1 | h1 | ⟨j, h1, h2, h3, h4⟩
      · exact .inl h1
      · exact .inr (.inl h1)
      · refine .inr (.inr ⟨j, h1, h2, h3, ?_⟩)
        rw [hc, ← hN, ← hme, hsure j (.inl (by omega))]
        exact h4
    · show LkI N me (castS s1 k id) (upL N me g ⟨2, s.round, k, 0, id⟩)
      rw [hup]
      have lkeep : (id = nilId ∨ k = 0) → (castS s1 k id).lockR = s.lockR ∧ (castS s1 k id).lock = s.lock := fun hh => hlk (fun _ hne => hh.elim (fun q => absurd q hne) (fun q => q))
      by_cases hnl : id = nilId
      · rw [if_pos hnl]
        obtain ⟨l1, l2⟩ := lkeep (.inl hnl)
        exact ⟨e1.trans hN, e2.trans hme, hvs.symm, hown', h.range, by rw [l1, l2]; exact h.lock⟩
      · rw [if_neg hnl]
        by_cases hk1 : k = 1
        · rw [if_pos hk1]
          obtain ⟨_, l1, l2⟩ := (hfree hp hnl).1 hk1
          exact ⟨e1.trans hN, e2.trans hme, hvs.symm, hown', ⟨by show -1 ≤ s.round; omega, hok.round.2⟩, .inr ⟨hr, l1, l2⟩⟩
        · rw [if_neg hk1]
          obtain ⟨l1, l2⟩ := lkeep (.inr (by omega))
          exact ⟨e1.trans hN, e2.trans hme, hvs.symm, hown', h.range, by rw [l1, l2]; exact h.lock⟩
  · have ea : castA s1 k id = [] := by
      unfold castA
      rw [e1, e2, e3, e4, if_neg hp]
    rw [ea]
    obtain ⟨l1, l2⟩ := hlk (fun e => absurd e hp)
    exact ⟨trivial, e1.trans hN, e2.trans hme, by rw [hvs, putT_bad hp]; exact hc, hown', h.range, by show (g.locked < 0 ∧ s1.lockR = 0) ∨ (0 ≤ g.locked ∧ s1.lockR = g.locked + 1 ∧ s1.lock = g.lock); rw [l1, l2]; exact h.lock⟩
theorem begin_lk {N : Nat} {me : Int} {s : RdS} {g : LkG} (h : LkI N me s g) {m : Int} (hm : s.round < m) : Acts (upL N me) (okL N me) g (beginA s m) ∧ LkI N me (beginS s m) ((beginA s m).foldl (upL N me) g) := by
  have ha := acts_other (N := N) (me := me) (beginA s m) g (fun a ha e => by rcases beginA_kind ha with h | h <;> omega)
  obtain ⟨b1, b2, b3, b4, b5⟩ := begin_votes s m
  rw [ha.2]
  exact ⟨ha.1, b2.trans h.voters, b3.trans h.me, h.c.trans b1.symm, own_begin h.own hm, h.range, by rw [b4, b5]; exact h.lock⟩
theorem timer_lk {N : Nat} {me : Int} {s : RdS} {g : LkG} (h : LkI N me s g) (k t : Nat) : Acts (upL N me) (okL N me) g (timerA s k t) ∧ LkI N me (timerS s k t) ((timerA s k t).foldl (upL N me) g) := by
  have ha := acts_other (N := N) (me := me) (timerA s k t) g (fun a ha e => by rw [(timerA_kind ha).1] at e; cases e)
  rw [ha.2]
  refine ⟨ha.1, ?_⟩
  unfold timerS
  split
  · exact h
  · exact ⟨h.voters, h.me, h.c, ⟨h.own.later, h.own.step0, h.own.step1⟩, h.range, h.lock⟩
theorem choice_free {s : RdS} {id : List UInt8} (hok : RdOk s) (hr : 0 ≤ s.round) (hc : choiceS s = some id) (hne : id ≠ nilId) : s.lockR = 0 ∨ s.lock = id ∨ ∃ j : Int, s.lockR - 1 ≤ j ∧ 0 ≤ j ∧ j < s.round ∧ sureO s.voters s.votes j 0 = some id := by
  have hr2 := hok.round.2
  have ho := hok.offers s.round.toNat (by omega)
  unfold choiceS at hc
  split at hc
  · cases hc
  dsimp only at hc
  split at hc
  · cases hc
  split at hc
  · injection hc with hc
    exact absurd hc.symm hne
  split at hc
  · cases hc
  rename_i h1 h2 h3 h4
  split at hc
  · injection hc with hc
    exact absurd hc.symm hne
  · rename_i h5
    injection hc with hc
    by_cases hl : (s.offers s.round.toNat).valid < s.lockR
    · right; left
      rw [← hc]
      exact Classical.byContradiction fun e => h5 ⟨hl, e⟩
    · by_cases h0 : 0 < (s.offers s.round.toNat).valid
      · right; right
        have hb : backedS s (s.offers s.round.toNat) = true := by
          cases hbb : backedS s (s.offers s.round.toNat) with
          | true => rfl
          | false => exact absurd ⟨h0, hbb⟩ h4
        unfold backedS at hb
        have hs : sureS s ((s.offers s.round.toNat).valid - 1) 0 = some (s.offers s.round.toNat).id := by simpa using hb
        refine ⟨(s.offers s.round.toNat).valid - 1, by omega, by omega, by omega, ?_⟩
        rw [← hc]
        exact (sureS_some hs).1
      · left
        have := hok.lockR.1
        omega
theorem step_lk {N : Nat} {me : Int} : ∀ (s : RdS) (l : List ActS) (s' : RdS) (g : LkG), GoodS s → s.step ≠ 3 → Step s l s' → LkI N me s g → Acts (upL N me) (okL N me) g l ∧ LkI N me s' (l.foldl (upL N me) g) := by
  intro s l s' g hg hs hst h
  have hr := early_round hg.ok hs
  cases hst with
  | done h1 h2 => exact ⟨⟨fun e => (by cases e), trivial⟩, h.voters, h.me, h.c, ⟨h.own.later, fun e => (by cases e), fun e => (by cases e)⟩, h.range, h.lock⟩
  | begins h1 => exact begin_lk h h1
  | @early id h1 h2 h3 h4 =>
    refine cast_lk hg.ok hr h 0 (.inl rfl) id rfl rfl rfl rfl (fun _ hne => ⟨fun e => by omega, fun _ => ?_⟩) (fun _ => ⟨rfl, rfl⟩) (.inl h3)
    rcases h4 with h4 | h4
    · exact absurd h4 hne
    · rcases choice_free hg.ok hr h4 hne with c1 | c1 | ⟨j, c1, c2, c3, c4⟩
      · left
        rcases h.lock with q | q <;> omega
      · rcases h.lock with q | q
        · exact .inl q.1
        · exact .inr (.inl (q.2.2.symm.trans c1))
      · exact .inr (.inr ⟨j, by rcases h.lock with q | q <;> omega, c2, c3, c4⟩)
  | @better id h1 h2 h3 =>
    obtain ⟨q0, q1, q2⟩ := sure0_step h3
    unfold betterA betterS
    by_cases hs1 : s.step = 1
    · rw [if_pos hs1, if_pos hs1]
      have hz := (hg.sure q2).2
      have hnl := (sureS_some q2).2.1
      have hcode : putCode s.voters s.votes s.round 1 s.me id = 0 := by
        unfold putCode
        have hok : okPut s.voters s.round 1 s.me id = true := by
          have := hg.ok.me
          have := hg.ok.round
          have hzb : (id == zeroId) = false := by rw [beq_eq_false_iff_ne]; exact hz
          unfold okPut
          rw [hzb]
          simp
          omega
        rw [hok, h.own.step1 hs1]
        rfl
      exact cast_lk (s := s) (s1 := lockS (bestS s id)) hg.ok hr h 1 (.inr rfl) id rfl rfl rfl rfl (fun _ _ => ⟨fun _ => ⟨(sureS_some q2).1, rfl, rfl⟩, fun e => by omega⟩) (fun e => by have := e hcode hnl; omega) (.inr ⟨hs1, rfl⟩)
    · rw [if_neg hs1, if_neg hs1]
      exact ⟨trivial, h.voters, h.me, h.c, ⟨h.own.later, fun e => absurd e q0, fun e => absurd e hs1⟩, h.range, h.lock⟩
  | late h1 h2 => exact cast_lk hg.ok hr h 1 (.inr rfl) nilId rfl rfl rfl rfl (fun _ hne => absurd rfl hne) (fun _ => ⟨rfl, rfl⟩) (.inr ⟨h2, rfl⟩)
  | timer h1 h2 => exact timer_lk h _ _
/-- What came from others is counted. -/
def inL (N : Nat) (me : Int) (g : LkG) (i : InS) : LkG := if i.kind = 3 ∧ i.who ≠ me then { g with c := putT N g.c i.round i.num i.who i.id } else g
theorem pre_lk {N : Nat} {me : Int} {s : RdS} {g : LkG} {i : InS} (hg : GoodS s) (h : LkI N me s g) (hk : 0 ≤ i.kind ∧ i.kind < 5) : Acts (upL N me) (okL N me) (inL N me g i) (preA s i) ∧ LkI N me (preS s i) ((preA s i).foldl (upL N me) (inL N me g i)) := by
  have hk3 : i.kind ≠ 3 → inL N me g i = g := fun e => if_neg fun q => e q.1
  have hsame : ∀ s2 : RdS, s2.voters = s.voters → s2.me = s.me → s2.votes = s.votes → s2.round = s.round → s2.step = s.step → s2.lockR = s.lockR → s2.lock = s.lock → LkI N me s2 g := fun s2 a1 a2 a3 a4 a5 a6 a7 => by
    refine ⟨a1.trans h.voters, a2.trans h.me, h.c.trans a3.symm, ⟨fun r k hlt => ?_, fun e => ?_, fun e => ?_⟩, h.range, by rw [a6, a7]; exact h.lock⟩
    · rw [a3, a2]
      exact h.own.later r k (by omega)
    · rw [a3, a2, a4]
      exact h.own.step0 (by omega)
    · rw [a3, a2, a4]
      exact h.own.step1 (by omega)
  have hc : i.kind = 0 ∨ i.kind = 1 ∨ i.kind = 2 ∨ i.kind = 3 ∨ i.kind = 4 := by omega
  rcases hc with h0 | h1 | h2 | h3 | h4
  · have q1 : preS s i = begS s i.id := by unfold preS; rw [if_pos h0]
    have q2 : preA s i = begA s i.id := by unfold preA; rw [if_pos h0]
    rw [q1, q2, hk3 (by omega)]
    unfold begS begA
    by_cases hr : 0 ≤ s.round
    · rw [if_pos hr, if_pos hr]
      exact ⟨trivial, h⟩
    · rw [if_neg hr, if_neg hr]
      refine begin_lk ?_ ?_
      · split
        · exact hsame _ rfl rfl rfl rfl rfl rfl rfl
        · exact h
      · split <;> (first | (show s.round < 0; omega) | omega)
  · have q1 : preS s i = remS s i.id := by unfold preS; rw [if_neg (by omega), if_pos h1]
    have q2 : preA s i = [] := by unfold preA; rw [if_neg (by omega), if_neg (by omega)]
    rw [q1, q2, hk3 (by omega)]
    refine ⟨trivial, ?_⟩
    show LkI N me (remS s i.id) g
    unfold remS
    split
    · exact hsame _ rfl rfl rfl rfl rfl rfl rfl
    · exact h
  · have q1 : preS s i = offrS s i.round i.valid i.id := by unfold preS; rw [if_neg (by omega), if_neg (by omega), if_pos h2]
    have q2 : preA s i = [] := by unfold preA; rw [if_neg (by omega), if_neg (by omega)]
    rw [q1, q2, hk3 (by omega)]
    refine ⟨trivial, ?_⟩
    show LkI N me (offrS s i.round i.valid i.id) g
    unfold offrS layS
    repeat' split
    all_goals first | exact h | exact hsame _ rfl rfl rfl rfl rfl rfl rfl
  · have q1 : preS s i = votS s i.round i.num i.who i.id := by unfold preS; rw [if_neg (by omega), if_neg (by omega), if_neg (by omega), if_pos h3]
    have q2 : preA s i = [] := by unfold preA; rw [if_neg (by omega), if_neg (by omega)]
    rw [q1, q2]
    refine ⟨trivial, ?_⟩
    show LkI N me (votS s i.round i.num i.who i.id) (inL N me g i)
    unfold votS inL
    by_cases hw : i.who = s.me
    · rw [if_neg (fun e => e hw), if_neg (fun e => e.2 (hw.trans h.me))]
      exact h
    · rw [if_pos hw, if_pos ⟨h3, fun e => hw (e.trans h.me.symm)⟩]
      have hfar : ∀ r k, putT s.voters s.votes i.round i.num i.who i.id r k s.me = s.votes r k s.me := fun r k => putT_far (fun e => hw e.2.2.symm)
      refine ⟨h.voters, h.me, by rw [h.c, ← h.voters], ⟨fun r k hlt => (hfar r k).trans (h.own.later r k hlt), fun e => ?_, fun e => (hfar _ _).trans (h.own.step1 e)⟩, h.range, h.lock⟩
      have := h.own.step0 e
      exact ⟨(hfar _ _).trans this.1, (hfar _ _).trans this.2⟩
  · have q1 : preS s i = timeS s i.round i.num := by unfold preS; rw [if_neg (by omega), if_neg (by omega), if_neg (by omega), if_neg (by omega)]
    have q2 : preA s i = timeA s i.round i.num := by unfold preA; rw [if_neg (by omega), if_pos h4]
    rw [q1, q2, hk3 (by omega)]
    by_cases hh : i.round = s.round ∧ s.step ≠ 3
    · have hr := early_round hg.ok hh.2
      unfold timeS timeA
      rw [if_pos hh, if_pos hh]
      by_cases hq : i.num = 0 ∧ s.step = 0
      · rw [if_pos hq, if_pos hq]
        exact cast_lk hg.ok hr h 0 (.inl rfl) nilId rfl rfl rfl rfl (fun _ hne => absurd rfl hne) (fun _ => ⟨rfl, rfl⟩) (.inl hq.2)
      · rw [if_neg hq, if_neg hq]
        by_cases hq1 : i.num = 1 ∧ s.step = 1
        · rw [if_pos hq1, if_pos hq1]
          exact cast_lk hg.ok hr h 1 (.inr rfl) nilId rfl rfl rfl rfl (fun _ hne => absurd rfl hne) (fun _ => ⟨rfl, rfl⟩) (.inr ⟨hq1.2, rfl⟩)
        · rw [if_neg hq1, if_neg hq1]
          by_cases hq2 : i.num = 2
          · rw [if_pos hq2, if_pos hq2]
            exact begin_lk h (by omega)
          · rw [if_neg hq2, if_neg hq2]
            exact ⟨trivial, h⟩
    · unfold timeS timeA
      rw [if_neg hh, if_neg hh]
      exact ⟨trivial, h⟩
theorem give_lk {N : Nat} {me : Int} {s : RdS} {g : LkG} {i : InS} (hg : GoodS s) (hid : IdOk i.id) (h : LkI N me s g) (h6 : i.kind ≠ 6) (h7 : i.kind ≠ 7) : Acts (upL N me) (okL N me) (inL N me g i) (giveA s i) ∧ LkI N me (giveS s i) ((giveA s i).foldl (upL N me) (inL N me g i)) := by
  unfold giveA giveS
  by_cases hk : 0 ≤ i.kind ∧ i.kind < 5
  · rw [if_pos hk, if_pos hk]
    obtain ⟨a1, i1⟩ := pre_lk hg h hk
    obtain ⟨_, a2, i2⟩ := settle_keeps (LkI N me) step_lk (pre_goodS hg i hid) i1
    rw [List.foldl_append]
    exact ⟨acts_append a1 a2, i2⟩
  · rw [if_neg hk, if_neg hk]
    have hin : inL N me g i = g := if_neg fun q => hk (by omega)
    rw [hin]
    refine ⟨trivial, ?_⟩
    split
    · exact ⟨h.voters, h.me, h.c, ⟨h.own.later, h.own.step0, h.own.step1⟩, h.range, h.lock⟩
    · exact h
theorem new_lk (v : Nat) (me hh : Int) : LkI v me (newS v me hh) ⟨noVotes, -1, zeroId⟩ :=
  ⟨rfl, rfl, rfl, ⟨fun _ _ _ => rfl, fun e => (by cases e), fun e => (by cases e)⟩, ⟨by show (-1 : Int) ≤ -1; omega, by show (-1 : Int) < 12; omega⟩, .inl ⟨by show (-1 : Int) < 0; omega, rfl⟩⟩
end Go.Proofs.Ytclhfokflagopaa
