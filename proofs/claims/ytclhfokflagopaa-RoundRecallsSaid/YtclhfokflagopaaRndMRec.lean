/-
  One's way to agreement, as plain mathematics: who recalls all acts of before is locked, and has voted, as then; what is voted for is never voted for again. Nothing here speaks of the program. No condition.
-/
import Derived.Test.YtclhfokflagopaaRndMLocks
namespace Go.Proofs.Ytclhfokflagopaa
open Go Go.RowKit Go.Maps

/-- One who goes along, and one who recalls what that one did. -/
structure TwinI (s g : RdS) : Prop where
  voters : g.voters = s.voters
  me : g.me = s.me
  own : OwnV s
  votes : ∀ r k, g.votes r k s.me = s.votes r k s.me
  lockR : g.lockR = s.lockR
  lock : g.lock = s.lock
  round : g.round ≤ s.round
theorem putT_new {n : Int} {V : Vt} {r k q : Int} {id : List UInt8} (h : putCode n V r k q id = 0) : putT n V r k q id r k q = some id := by
  unfold putCode at h
  unfold putT
  have h1 : okPut n r k q id = true := Classical.byContradiction fun e => by
    have e' : okPut n r k q id = false := by cases hq : okPut n r k q id with | true => exact absurd hq e | false => rfl
    rw [if_pos e'] at h
    cases h
  have h2 : (V r k q).isSome = false := Classical.byContradiction fun e => by
    have e' : (V r k q).isSome = true := by cases hq : (V r k q).isSome with | true => rfl | false => exact absurd hq e
    rw [if_neg (by rw [h1]; decide), if_pos e'] at h
    cases h
  rw [if_pos ⟨h1, h2⟩]
  unfold putC
  rw [if_pos ⟨rfl, rfl, rfl⟩]
theorem putCode_zero {n : Int} {V : Vt} {r k q : Int} {id : List UInt8} (h : putCode n V r k q id = 0) : id ≠ zeroId ∧ V r k q = none ∧ okPut n r k q id = true := by
  unfold putCode at h
  have h1 : okPut n r k q id = true := Classical.byContradiction fun e => by
    have e' : okPut n r k q id = false := by cases hq : okPut n r k q id with | true => exact absurd hq e | false => rfl
    rw [if_pos e'] at h
    cases h
  have h2 : (V r k q).isSome = false := Classical.byContradiction fun e => by
    have e' : (V r k q).isSome = true := by cases hq : (V r k q).isSome with | true => rfl | false => exact absurd hq e
    rw [if_neg (by rw [h1]; decide), if_pos e'] at h
    cases h
  refine ⟨fun e => ?_, by simpa using h2, h1⟩
  subst e
  unfold okPut at h1
  simp at h1
theorem putCode_alike {n : Int} {V V' : Vt} {r k q : Int} {id : List UInt8} (h : V' r k q = V r k q) : putCode n V' r k q id = putCode n V r k q id := by
  unfold putCode
  rw [h]
theorem rec_other {g : RdS} {a : ActS} (h : a.kind ≠ 2) : (recS g a).voters = g.voters ∧ (recS g a).me = g.me ∧ (recS g a).votes = g.votes ∧ (recS g a).lockR = g.lockR ∧ (recS g a).lock = g.lock ∧ (recS g a).round = g.round := by
  unfold recS
  split
  · exact ⟨rfl, rfl, rfl, rfl, rfl, rfl⟩
  split
  · unfold layS
    split <;> exact ⟨rfl, rfl, rfl, rfl, rfl, rfl⟩
  exact ⟨rfl, rfl, rfl, rfl, rfl, rfl⟩
theorem recs_other {s : RdS} : ∀ (l : List ActS) (g : RdS), (∀ a ∈ l, a.kind ≠ 2) → TwinI s g → TwinI s (l.foldl recS g)
  | [], _, _, h => h
  | a :: l, g, ha, h => by
    obtain ⟨e1, e2, e3, e4, e5, e6⟩ := rec_other (g := g) (ha a List.mem_cons_self)
    exact recs_other l _ (fun b hb => ha b (List.mem_cons_of_mem _ hb)) ⟨e1.trans h.voters, e2.trans h.me, h.own, fun r k => by rw [e3]; exact h.votes r k, e4.trans h.lockR, e5.trans h.lock, by rw [e6]; exact h.round⟩
/-- One's own votes behind one that is cast. -/
theorem own_cast {s s1 : RdS} (hown : OwnV s) (k : Int) (id : List UInt8) (e1 : s1.voters = s.voters) (e2 : s1.me = s.me) (e3 : s1.votes = s.votes) (e4 : s1.round = s.round) (hstep : s.step = 0 ∨ (s.step = 1 ∧ k = 1)) : OwnV (castS s1 k id) := by
  have hvs : (castS s1 k id).votes = putT s.voters s.votes s.round k s.me id := by
    show putT s1.voters s1.votes s1.round k s1.me id = _
    rw [e1, e2, e3, e4]
  have hbeh : (castS s1 k id).step = behS k := rfl
  have hrd : (castS s1 k id).round = s.round := e4
  have hmm : (castS s1 k id).me = s.me := e2
  refine ⟨fun r j hlt => ?_, fun e => ?_, fun e => ?_⟩
  · rw [hvs, hmm, putT_far (by rw [hrd] at hlt; omega)]
    exact hown.later r j (by omega)
  · rw [hbeh] at e
    unfold behS at e
    split at e <;> omega
  · rw [hbeh] at e
    have hk0 : k = 0 := by
      unfold behS at e
      split at e
      · assumption
      · omega
    rw [hvs, hmm, hrd, putT_far (by omega)]
    rcases hstep with h0 | ⟨_, h1⟩
    · exact (hown.step0 h0).2
    · omega
/-- A vote that is cast, and recalled. -/
theorem cast_twin {s s1 g : RdS} (hok : RdOk s) (hr : 0 ≤ s.round) (h : TwinI s g) (k : Int) (id : List UInt8)
    (e1 : s1.voters = s.voters) (e2 : s1.me = s.me) (e3 : s1.votes = s.votes) (e4 : s1.round = s.round)
    (hlk1 : k = 1 → id ≠ nilId → putCode s.voters s.votes s.round k s.me id = 0 ∧ s1.lockR = s.round + 1 ∧ s1.lock = id)
    (hlk0 : ¬ (k = 1 ∧ id ≠ nilId) → s1.lockR = s.lockR ∧ s1.lock = s.lock)
    (hstep : s.step = 0 ∨ (s.step = 1 ∧ k = 1)) : TwinI (castS s1 k id) ((castA s1 k id).foldl recS g) := by
  have hown' := own_cast h.own k id e1 e2 e3 e4 hstep
  have hvs : (castS s1 k id).votes = putT s.voters s.votes s.round k s.me id := by
    show putT s1.voters s1.votes s1.round k s1.me id = _
    rw [e1, e2, e3, e4]
  by_cases hp : putCode s.voters s.votes s.round k s.me id = 0
  · have ea : castA s1 k id = [⟨2, s.round, k, 0, id⟩] := by
      unfold castA
      rw [e1, e2, e3, e4, if_pos hp]
    rw [ea]
    obtain ⟨hz, hnone, _⟩ := putCode_zero hp
    have hcg : putCode g.voters g.votes s.round k g.me id = 0 := by
      rw [h.voters, h.me, putCode_alike (h.votes s.round k)]
      exact hp
    have er : recS g ⟨2, s.round, k, 0, id⟩ = resS g s.round k id := by
      unfold recS
      rw [if_neg (fun e => e.elim (fun e => e ⟨hr, hok.round.2⟩) (fun e => hz e)), if_neg (by show ¬ (2 : Int) = 1; decide), if_pos (by rfl)]
    show TwinI (castS s1 k id) (recS g ⟨2, s.round, k, 0, id⟩)
    rw [er]
    unfold resS
    dsimp only
    rw [if_neg (fun e => e.elim (fun e => e hcg) (fun e => absurd h.round (by omega)))]
    have hvotes : ∀ r j, putT g.voters g.votes s.round k g.me id r j s1.me = (castS s1 k id).votes r j s1.me := fun r j => by
      rw [hvs, e2]
      by_cases hh : r = s.round ∧ j = k
      · obtain ⟨rfl, rfl⟩ := hh
        have a1 := putT_new hcg
        rw [h.me] at a1
        rw [h.me, a1, putT_new hp]
      · rw [putT_far (by rintro ⟨a, b, _⟩; exact hh ⟨a, b⟩), putT_far (by rintro ⟨a, b, _⟩; exact hh ⟨a, b⟩)]
        exact h.votes r j
    by_cases hk : k = 1 ∧ id ≠ nilId
    · rw [if_pos hk]
      obtain ⟨_, l1, l2⟩ := hlk1 hk.1 hk.2
      exact ⟨h.voters.trans e1.symm, h.me.trans e2.symm, hown', hvotes, l1.symm, l2.symm, by show s.round ≤ s1.round; omega⟩
    · rw [if_neg hk]
      obtain ⟨l1, l2⟩ := hlk0 hk
      exact ⟨h.voters.trans e1.symm, h.me.trans e2.symm, hown', hvotes, h.lockR.trans l1.symm, h.lock.trans l2.symm, by show s.round ≤ s1.round; omega⟩
  · have ea : castA s1 k id = [] := by
      unfold castA
      rw [e1, e2, e3, e4, if_neg hp]
    rw [ea]
    obtain ⟨l1, l2⟩ := hlk0 (fun e => hp (hlk1 e.1 e.2).1)
    exact ⟨h.voters.trans e1.symm, h.me.trans e2.symm, hown', fun r j => by rw [hvs, putT_bad hp]; show g.votes r j s1.me = s.votes r j s1.me; rw [e2]; exact h.votes r j, h.lockR.trans l1.symm, h.lock.trans l2.symm, by show g.round ≤ s1.round; rw [e4]; exact h.round⟩
theorem begin_round {s : RdS} {m : Int} (hm : s.round < m) : s.round ≤ (beginS s m).round := by
  unfold beginS
  repeat' split
  all_goals first | (rw [timerS_round]; show s.round ≤ m; omega) | (show s.round ≤ m; omega) | (show s.round ≤ s.round; omega)
theorem begin_twin {s g : RdS} (h : TwinI s g) {m : Int} (hm : s.round < m) : TwinI (beginS s m) ((beginA s m).foldl recS g) := by
  have h2 := recs_other (beginA s m) g (fun a ha e => by rcases beginA_kind ha with h | h <;> omega) h
  obtain ⟨b1, b2, b3, b4, b5⟩ := begin_votes s m
  exact ⟨h2.voters.trans b2.symm, h2.me.trans b3.symm, own_begin h.own hm, fun r k => by rw [b1, b3]; exact h2.votes r k, h2.lockR.trans b4.symm, h2.lock.trans b5.symm, Int.le_trans h2.round (begin_round hm)⟩
theorem timer_twin {s g : RdS} (h : TwinI s g) (k t : Nat) : TwinI (timerS s k t) ((timerA s k t).foldl recS g) := by
  have h2 := recs_other (timerA s k t) g (fun a ha e => by rw [(timerA_kind ha).1] at e; cases e) h
  unfold timerS
  split
  · exact h2
  · exact ⟨h2.voters, h2.me, ⟨h.own.later, h.own.step0, h.own.step1⟩, h2.votes, h2.lockR, h2.lock, h2.round⟩
/-- What is sure, and better than what was, can be voted for. -/
theorem better_code {s : RdS} (hg : GoodS s) (hr : 0 ≤ s.round) (hown : OwnV s) (hs1 : s.step = 1) {id : List UInt8} (hz : id ≠ zeroId) : putCode s.voters s.votes s.round 1 s.me id = 0 := by
  unfold putCode
  have hok : okPut s.voters s.round 1 s.me id = true := by
    have := hg.ok.me
    have := hg.ok.round
    have hzb : (id == zeroId) = false := by rw [beq_eq_false_iff_ne]; exact hz
    unfold okPut
    rw [hzb]
    simp
    omega
  rw [hok, hown.step1 hs1]
  rfl
theorem step_twin : ∀ (s : RdS) (l : List ActS) (s' : RdS) (g : RdS), GoodS s → s.step ≠ 3 → Step s l s' → TwinI s g → Acts recS (fun _ _ => True) g l ∧ TwinI s' (l.foldl recS g) := by
  intro s l s' g hg hs hst h
  refine ⟨acts_any l g, ?_⟩
  have hr := early_round hg.ok hs
  cases hst with
  | @done k id h1 h2 =>
    have h3 := recs_other (s := s) [⟨4, (k : Int), 0, 0, id⟩] g (fun a ha e => by rw [List.mem_singleton] at ha; subst ha; cases e) h
    exact ⟨h3.voters, h3.me, ⟨h.own.later, fun e => (by cases e), fun e => (by cases e)⟩, h3.votes, h3.lockR, h3.lock, h3.round⟩
  | begins h1 => exact begin_twin h h1
  | @early id h1 h2 h3 h4 => exact cast_twin hg.ok hr h 0 id rfl rfl rfl rfl (fun e => by omega) (fun _ => ⟨rfl, rfl⟩) (.inl h3)
  | @better id h1 h2 h3 =>
    obtain ⟨q0, q1, q2⟩ := sure0_step h3
    unfold betterA betterS
    by_cases hs1 : s.step = 1
    · rw [if_pos hs1, if_pos hs1]
      have hz := (hg.sure q2).2
      have hnl := (sureS_some q2).2.1
      exact cast_twin (s := s) (s1 := lockS (bestS s id)) hg.ok hr h 1 id rfl rfl rfl rfl (fun _ _ => ⟨better_code hg hr h.own hs1 hz, rfl, rfl⟩) (fun e => absurd ⟨rfl, hnl⟩ e) (.inr ⟨hs1, rfl⟩)
    · rw [if_neg hs1, if_neg hs1]
      exact ⟨h.voters, h.me, ⟨h.own.later, fun e => absurd e q0, fun e => absurd e hs1⟩, h.votes, h.lockR, h.lock, h.round⟩
  | late h1 h2 => exact cast_twin hg.ok hr h 1 nilId rfl rfl rfl rfl (fun _ hne => absurd rfl hne) (fun _ => ⟨rfl, rfl⟩) (.inr ⟨h2, rfl⟩)
  | timer h1 h2 => exact timer_twin h _ _
theorem pre_twin {s g : RdS} {i : InS} (hg : GoodS s) (h : TwinI s g) (hk : 0 ≤ i.kind ∧ i.kind < 5) : TwinI (preS s i) ((preA s i).foldl recS g) := by
  have hsame : ∀ s2 : RdS, s2.voters = s.voters → s2.me = s.me → s2.votes = s.votes → s2.round = s.round → s2.step = s.step → s2.lockR = s.lockR → s2.lock = s.lock → TwinI s2 g := fun s2 a1 a2 a3 a4 a5 a6 a7 => by
    refine ⟨h.voters.trans a1.symm, h.me.trans a2.symm, ⟨fun r k hlt => ?_, fun e => ?_, fun e => ?_⟩, fun r k => by rw [a2, a3]; exact h.votes r k, h.lockR.trans a6.symm, h.lock.trans a7.symm, by rw [a4]; exact h.round⟩
    · rw [a3, a2]
      exact h.own.later r k (by omega)
    · rw [a3, a2, a4]
      exact h.own.step0 (by omega)
    · rw [a3, a2, a4]
      exact h.own.step1 (by omega)
  have hc : i.kind = 0 ∨ i.kind = 1 ∨ i.kind = 2 ∨ i.kind = 3 ∨ i.kind = 4 := by omega
  rcases hc with h0 | h1 | h2 | h3 | h4
  · have q1 : preS s i = begS s i.id := by unfold preS; rw [if_pos h0]
    have q2 : preA s i = begA s i.id := by unfold preA; rw [if_pos h0]
    rw [q1, q2]
    unfold begS begA
    by_cases hr : 0 ≤ s.round
    · rw [if_pos hr, if_pos hr]
      exact h
    · rw [if_neg hr, if_neg hr]
      refine begin_twin ?_ ?_
      · split
        · exact hsame _ rfl rfl rfl rfl rfl rfl rfl
        · exact h
      · split <;> (first | (show s.round < 0; omega) | omega)
  · have q1 : preS s i = remS s i.id := by unfold preS; rw [if_neg (by omega), if_pos h1]
    have q2 : preA s i = [] := by unfold preA; rw [if_neg (by omega), if_neg (by omega)]
    rw [q1, q2]
    show TwinI (remS s i.id) g
    unfold remS
    split
    · exact hsame _ rfl rfl rfl rfl rfl rfl rfl
    · exact h
  · have q1 : preS s i = offrS s i.round i.valid i.id := by unfold preS; rw [if_neg (by omega), if_neg (by omega), if_pos h2]
    have q2 : preA s i = [] := by unfold preA; rw [if_neg (by omega), if_neg (by omega)]
    rw [q1, q2]
    show TwinI (offrS s i.round i.valid i.id) g
    unfold offrS layS
    repeat' split
    all_goals first | exact h | exact hsame _ rfl rfl rfl rfl rfl rfl rfl
  · have q1 : preS s i = votS s i.round i.num i.who i.id := by unfold preS; rw [if_neg (by omega), if_neg (by omega), if_neg (by omega), if_pos h3]
    have q2 : preA s i = [] := by unfold preA; rw [if_neg (by omega), if_neg (by omega)]
    rw [q1, q2]
    show TwinI (votS s i.round i.num i.who i.id) g
    unfold votS
    by_cases hw : i.who = s.me
    · rw [if_neg (fun e => e hw)]
      exact h
    · rw [if_pos hw]
      have hfar : ∀ r k, putT s.voters s.votes i.round i.num i.who i.id r k s.me = s.votes r k s.me := fun r k => putT_far (fun e => hw e.2.2.symm)
      refine ⟨h.voters, h.me, ⟨fun r k hlt => (hfar r k).trans (h.own.later r k hlt), fun e => ?_, fun e => (hfar _ _).trans (h.own.step1 e)⟩, fun r k => (h.votes r k).trans (hfar r k).symm, h.lockR, h.lock, h.round⟩
      have := h.own.step0 e
      exact ⟨(hfar _ _).trans this.1, (hfar _ _).trans this.2⟩
  · have q1 : preS s i = timeS s i.round i.num := by unfold preS; rw [if_neg (by omega), if_neg (by omega), if_neg (by omega), if_neg (by omega)]
    have q2 : preA s i = timeA s i.round i.num := by unfold preA; rw [if_neg (by omega), if_pos h4]
    rw [q1, q2]
    by_cases hh : i.round = s.round ∧ s.step ≠ 3
    · have hr := early_round hg.ok hh.2
      unfold timeS timeA
      rw [if_pos hh, if_pos hh]
      by_cases hq : i.num = 0 ∧ s.step = 0
      · rw [if_pos hq, if_pos hq]
        exact cast_twin hg.ok hr h 0 nilId rfl rfl rfl rfl (fun e => by omega) (fun _ => ⟨rfl, rfl⟩) (.inl hq.2)
      · rw [if_neg hq, if_neg hq]
        by_cases hq1 : i.num = 1 ∧ s.step = 1
        · rw [if_pos hq1, if_pos hq1]
          exact cast_twin hg.ok hr h 1 nilId rfl rfl rfl rfl (fun _ hne => absurd rfl hne) (fun _ => ⟨rfl, rfl⟩) (.inr ⟨hq1.2, rfl⟩)
        · rw [if_neg hq1, if_neg hq1]
          by_cases hq2 : i.num = 2
          · rw [if_pos hq2, if_pos hq2]
            exact begin_twin h (by omega)
          · rw [if_neg hq2, if_neg hq2]
            exact h
    · unfold timeS timeA
      rw [if_neg hh, if_neg hh]
      exact h
theorem rem_twin {s g : RdS} (h : TwinI s g) (id : List UInt8) : TwinI (remS s id) g := by
  unfold remS
  split
  · exact ⟨h.voters, h.me, ⟨h.own.later, h.own.step0, h.own.step1⟩, h.votes, h.lockR, h.lock, h.round⟩
  · exact h
/-- Whatever comes, and what one does then, recalled. -/
theorem give_twin {s g : RdS} {i : InS} (hg : GoodS s) (hid : IdOk i.id) (h : TwinI s g) (h6 : i.kind ≠ 6) : TwinI (giveS s i) ((giveA s i).foldl recS g) := by
  unfold giveA giveS
  by_cases hk : 0 ≤ i.kind ∧ i.kind < 5
  · rw [if_pos hk, if_pos hk]
    obtain ⟨_, _, i2⟩ := settle_keeps TwinI step_twin (pre_goodS hg i hid) (pre_twin hg h hk)
    rw [List.foldl_append]
    exact i2
  · rw [if_neg hk, if_neg hk]
    show TwinI _ g
    split
    · exact ⟨h.voters, h.me, ⟨h.own.later, h.own.step0, h.own.step1⟩, h.votes, h.lockR, h.lock, h.round⟩
    split
    · exact rem_twin h _
    · exact h
theorem new_twin (v : Nat) (me hh : Int) : TwinI (newS v me hh) (newS v me hh) :=
  ⟨rfl, rfl, ⟨fun _ _ _ => rfl, fun e => (by cases e), fun e => (by cases e)⟩, fun _ _ => rfl, rfl, rfl, Int.le_refl _⟩
/-- What was voted for before, one voted for. -/
structure KeptV (own : Int → Int → Option (List UInt8)) (me : Int) (s : RdS) : Prop where
  meq : s.me = me
  has : ∀ r k, (own r k).isSome = true → (s.votes r k me).isSome = true
def okV (own : Int → Int → Option (List UInt8)) (a : ActS) : Prop := a.kind = 2 → (a.num = 0 ∨ a.num = 1) ∧ own a.round a.num = none
theorem putT_more {n : Int} {V : Vt} {r k q : Int} {id : List UInt8} {r' k' q' : Int} (h : (V r' k' q').isSome = true) : (putT n V r k q id r' k' q').isSome = true := by
  unfold putT
  split
  · unfold putC
    split
    · rfl
    · exact h
  · exact h
theorem acts_keptO {own : Int → Int → Option (List UInt8)} : ∀ (l : List ActS) (g : Unit), (∀ a ∈ l, okV own a) → Acts (fun (g : Unit) _ => g) (fun _ a => okV own a) g l
  | [], _, _ => trivial
  | a :: l, g, h => ⟨h a List.mem_cons_self, acts_keptO l g fun b hb => h b (List.mem_cons_of_mem _ hb)⟩
theorem cast_kept {own : Int → Int → Option (List UInt8)} {me : Int} {s : RdS} (h : KeptV own me s) (k : Int) (hk : k = 0 ∨ k = 1) (id : List UInt8) : (∀ a ∈ castA s k id, okV own a) ∧ KeptV own me (castS s k id) := by
  refine ⟨fun a ha _ => ?_, h.meq, fun r j hh => putT_more (h.has r j hh)⟩
  obtain ⟨rfl, hc⟩ := castA_kind ha
  refine ⟨hk, ?_⟩
  show own s.round k = none
  obtain ⟨_, h1, _⟩ := putCode_zero hc
  cases ho : own s.round k with
  | none => rfl
  | some x =>
    have := h.has s.round k (by rw [ho]; rfl)
    rw [← h.meq, h1] at this
    cases this
theorem begin_kept {own : Int → Int → Option (List UInt8)} {me : Int} {s : RdS} (h : KeptV own me s) (m : Int) : (∀ a ∈ beginA s m, okV own a) ∧ KeptV own me (beginS s m) := by
  obtain ⟨b1, b2, b3, _⟩ := begin_votes s m
  exact ⟨fun a ha e => (by rcases beginA_kind ha with h | h <;> omega), b3.trans h.meq, fun r k hh => by rw [b1]; exact h.has r k hh⟩
theorem step_kept {own : Int → Int → Option (List UInt8)} {me : Int} : ∀ (s : RdS) (l : List ActS) (s' : RdS) (g : Unit), GoodS s → s.step ≠ 3 → Step s l s' → KeptV own me s → Acts (fun (g : Unit) _ => g) (fun _ a => okV own a) g l ∧ KeptV own me s' := by
  intro s l s' g hg hs hst h
  have go : (∀ a ∈ l, okV own a) ∧ KeptV own me s' := by
    cases hst with
    | done h1 h2 => exact ⟨fun a ha e => (by rw [List.mem_singleton] at ha; subst ha; cases e), h.meq, h.has⟩
    | begins h1 => exact begin_kept h _
    | early h1 h2 h3 h4 => exact cast_kept h 0 (.inl rfl) _
    | @better id h1 h2 h3 =>
      unfold betterA betterS
      by_cases hs1 : s.step = 1
      · rw [if_pos hs1, if_pos hs1]
        exact cast_kept (s := lockS (bestS s id)) ⟨h.meq, h.has⟩ 1 (.inr rfl) id
      · rw [if_neg hs1, if_neg hs1]
        exact ⟨fun a ha => (by cases ha), h.meq, h.has⟩
    | late h1 h2 => exact cast_kept h 1 (.inr rfl) _
    | timer h1 h2 =>
      refine ⟨fun a ha e => (by rw [(timerA_kind ha).1] at e; cases e), ?_⟩
      unfold timerS
      split
      · exact h
      · exact ⟨h.meq, h.has⟩
  exact ⟨acts_keptO l g go.1, go.2⟩
theorem pre_kept {own : Int → Int → Option (List UInt8)} {me : Int} {s : RdS} {i : InS} (h : KeptV own me s) : (∀ a ∈ preA s i, okV own a) ∧ KeptV own me (preS s i) := by
  have hrem : ∀ id, KeptV own me (remS s id) := fun id => by
    unfold remS
    split
    · exact ⟨h.meq, h.has⟩
    · exact h
  have htime : (∀ a ∈ timeA s i.round i.num, okV own a) ∧ KeptV own me (timeS s i.round i.num) := by
    unfold timeA timeS
    repeat' split
    all_goals first | exact cast_kept h 0 (.inl rfl) _ | exact cast_kept h 1 (.inr rfl) _ | exact begin_kept h _ | exact ⟨fun a ha => (by cases ha), h⟩
  have hbeg : (∀ a ∈ begA s i.id, okV own a) ∧ KeptV own me (begS s i.id) := by
    unfold begA begS
    by_cases hr : 0 ≤ s.round
    · rw [if_pos hr, if_pos hr]
      exact ⟨fun a ha => (by cases ha), h⟩
    · rw [if_neg hr, if_neg hr]
      refine begin_kept ?_ 0
      split
      · exact ⟨h.meq, h.has⟩
      · exact h
  unfold preA preS
  by_cases h0 : i.kind = 0
  · rw [if_pos h0, if_pos h0]
    exact hbeg
  rw [if_neg h0, if_neg h0]
  by_cases h4 : i.kind = 4
  · rw [if_pos h4, if_neg (by omega), if_neg (by omega), if_neg (by omega)]
    exact htime
  rw [if_neg h4]
  refine ⟨fun a ha => (by cases ha), ?_⟩
  split
  · exact hrem _
  split
  · unfold offrS layS
    repeat' split
    all_goals first | exact h | exact ⟨h.meq, h.has⟩
  split
  · unfold votS
    split
    · exact ⟨h.meq, fun r k hh => putT_more (h.has r k hh)⟩
    · exact h
  · exact htime.2
/-- Whatever comes: nothing is voted for where one voted before. -/
theorem give_kept {own : Int → Int → Option (List UInt8)} {me : Int} {s : RdS} {i : InS} (hg : GoodS s) (hid : IdOk i.id) (h : KeptV own me s) (h6 : i.kind ≠ 6) : (∀ a ∈ giveA s i, okV own a) ∧ KeptV own me (giveS s i) := by
  unfold giveA giveS
  by_cases hk : 0 ≤ i.kind ∧ i.kind < 5
  · rw [if_pos hk, if_pos hk]
    obtain ⟨p1, p2⟩ := pre_kept (i := i) h
    obtain ⟨_, q1, q2⟩ := settle_keeps (γ := Unit) (fun s _ => KeptV own me s) step_kept (pre_goodS hg i hid) (g := ()) p2
    refine ⟨fun a ha => ?_, q2⟩
    rcases List.mem_append.1 ha with ha | ha
    · exact p1 a ha
    · obtain ⟨j, hj, rfl⟩ := List.getElem_of_mem ha
      exact acts_at q1 (List.getElem?_eq_getElem hj)
  · rw [if_neg hk, if_neg hk]
    refine ⟨fun a ha => (by cases ha), ?_⟩
    split
    · exact ⟨h.meq, h.has⟩
    split
    · unfold remS
      split
      · exact ⟨h.meq, h.has⟩
      · exact h
    · exact h
end Go.Proofs.Ytclhfokflagopaa
