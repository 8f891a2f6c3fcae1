/-
  One's way to agreement where all know one thing and nobody votes for anything else, as plain mathematics: what is left when nothing is due. Nothing here speaks of the program. No condition.
  Several ways to agreement where all know one thing, as plain mathematics: what a call leaves, and where all have what is sent, all are done. Nothing here speaks of the program. No condition.
  Several ways to agreement where all know one thing, as plain mathematics: what a call of another's vote, or of the offer, leaves. Nothing here speaks of the program. No condition.
  Several ways to agreement where all know one thing, as plain mathematics: what is sent, and a mail that comes. Nothing here speaks of the program. No condition.
  Several ways to agreement where all know one thing, as plain mathematics: one hears something, and sends what it says. Nothing here speaks of the program. No condition.
  Several ways to agreement where all know one thing, as plain mathematics: a mail comes. Nothing here speaks of the program. No condition.
  Several ways to agreement where all know one thing, as plain mathematics: one begins. Nothing here speaks of the program. No condition.
  Several ways to agreement where all know one thing, as plain mathematics: one after another they begin. Nothing here speaks of the program. No condition.
-/
import Derived.Test.YtbgojlcciealiaaRndMRec
import Derived.Test.YtbgojlcciealiaaRndMQuiet
import Derived.Test.YtbgojlcciealiaaRndMail
import Derived.Test.YtbgojlcciealiaaRndCome
namespace Go.Proofs.Ytbgojlcciealiaa
open Go Go.RowKit Go.Maps

theorem castL_none {n : Nat} {V : Vt} {r k : Int} (h : ∀ q : Nat, V r k (q : Int) = none) : castL n V r k = [] := by
  unfold castL
  rw [List.filterMap_eq_nil_iff]
  intro q _
  rw [h q]
  rfl
theorem ahead_none {n : Nat} (hn : 0 ≤ faults n) {V : Vt} {r : Int} (h : ∀ m k q : Int, r < m → V m k q = none) : aheadO n V r = none := by
  unfold aheadO
  have e : (List.range 12).filter (fun (m : Nat) => decide (r < (m : Int)) && decide (faults n < ((presentL n V m).length : Int))) = [] := by
    rw [List.filter_eq_nil_iff]
    intro m _
    rw [Bool.and_eq_true, decide_eq_true_eq, decide_eq_true_eq]
    rintro ⟨h1, h2⟩
    have e1 : presentL n V (m : Int) = [] := by
      unfold presentL
      rw [castL_none fun q => h m 0 q h1, castL_none fun q => h m 1 q h1]
      rfl
    rw [e1] at h2
    have : (([] : List (Nat × List UInt8)).length : Int) = 0 := rfl
    omega
  rw [e]
  rfl
/-- Timers are not asked for what is due. -/
theorem nextS_timers (s : RdS) (t : Nat → Nat → Bool) : nextS { s with timers := t } = none ↔ nextS s = none := by
  unfold nextS
  have h1 : agreedS { s with timers := t } = agreedS s := rfl
  have h2 : choiceS { s with timers := t } = choiceS s := rfl
  have h3 : sure0 { s with timers := t } = sure0 s := rfl
  have h4 : nilDue { s with timers := t } = nilDue s := rfl
  rw [h1, h2, h3, h4]
  cases agreedS s with
  | some p => simp
  | none =>
    dsimp only
    cases aheadO s.voters s.votes s.round with
    | some m => simp
    | none =>
      dsimp only
      cases choiceS s with
      | some id => simp
      | none =>
        dsimp only
        cases sure0 s with
        | some id => simp
        | none =>
          dsimp only
          cases nilDue s <;> simp
theorem timerS_form (s : RdS) (k t : Nat) : ∃ tm, timerS s k t = { s with timers := tm } := by
  unfold timerS
  split
  · exact ⟨s.timers, rfl⟩
  · exact ⟨_, rfl⟩
theorem waitS_form (s : RdS) : ∃ tm, waitS s = { s with timers := tm } := by
  have h1 : ∃ tm, wS1 s = { s with timers := tm } := by
    unfold wS1
    split
    · exact timerS_form s _ _
    · exact ⟨s.timers, rfl⟩
  obtain ⟨t1, e1⟩ := h1
  unfold waitS wS2
  split
  · obtain ⟨t2, e2⟩ := timerS_form (wS1 s) (wS1 s).round.toNat 2
    rw [e2, e1]
    exact ⟨t2, rfl⟩
  · rw [e1]
    exact ⟨t1, rfl⟩
theorem waitA_kind {s : RdS} {a : ActS} (h : a ∈ waitA s) : a.kind = 3 := by
  unfold waitA wA1 wA2 at h
  rcases List.mem_append.1 h with h | h
  · split at h
    · rw [(timerA_kind h).1]
    · cases h
  · split at h
    · rw [(timerA_kind h).1]
    · cases h
/-- What each step keeps, settling keeps; and then nothing is due. -/
theorem settleF_ends (I : RdS → List ActS → Prop) (hstep : ∀ s s' l g, RdOk s → 0 ≤ s.round → s.step ≠ 3 → I s g → nextS s = some (s', l) → RdOk s' ∧ (s'.step ≠ 3 → 0 ≤ s'.round) ∧ I s' (g ++ l))
    (hwait : ∀ s tm l g, (∀ a ∈ l, a.kind = 3) → I s g → I { s with timers := tm } (g ++ l)) :
    ∀ (f : Nat) (s : RdS) (g : List ActS), RdOk s → (s.step ≠ 3 → 0 ≤ s.round) → mu s < f → I s g → I (settleF f s).1 (g ++ (settleF f s).2) ∧ ((settleF f s).1.step = 3 ∨ nextS (settleF f s).1 = none) := by
  intro f
  induction f with
  | zero => intro s g _ _ hm _; omega
  | succ f ih =>
    intro s g hok hr hm hI
    by_cases hs : s.step = 3
    · rw [settleF_over _ hs]
      exact ⟨by simpa using hI, .inl hs⟩
    · cases hn : nextS s with
      | none =>
        rw [settleF_none f hs hn]
        obtain ⟨tm, e⟩ := waitS_form s
        dsimp only
        rw [e]
        exact ⟨hwait s tm _ g (fun a ha => waitA_kind ha) hI, .inr ((nextS_timers s tm).2 hn)⟩
      | some p =>
        obtain ⟨s', l⟩ := p
        rw [settleF_some f hs hn]
        obtain ⟨h1, h2, h3⟩ := hstep s s' l g hok (hr hs) hs hI hn
        have hmu := next_mu hok (hr hs) hs hn
        have := ih s' (g ++ l) h1 h2 (by omega) h3
        rw [List.append_assoc] at this
        exact this
/-- How many votes of one's own are still to come. -/
def fr (i : Int) (V : Vt) : Nat := (if (V 0 0 i).isSome = true then 0 else 1) + (if (V 0 1 i).isSome = true then 0 else 1)
/-- How many votes are told. -/
def cnt2 (g : List ActS) : Nat := g.countP fun a => a.kind == 2
theorem cnt2_app (g l : List ActS) : cnt2 (g ++ l) = cnt2 g + cnt2 l := List.countP_append
theorem cnt2_zero {l : List ActS} (h : ∀ a ∈ l, a.kind ≠ 2) : cnt2 l = 0 := by
  unfold cnt2
  rw [List.countP_eq_zero]
  intro a ha
  rw [beq_iff_eq]
  exact h a ha
/-- Where all know one thing, and nobody votes for anything else, in the first round. -/
structure LvI (N : Nat) (i : Int) (X : List UInt8) (V0 : Vt) (o0 : Nat → OfferS) (s : RdS) (g : List ActS) : Prop where
  voters : s.voters = N
  meq : s.me = i
  known : s.known = [X]
  round : s.round = 0
  lock : s.lockR = 0 ∨ s.lock = X
  best : s.step = 0 ∨ s.step = 1 → s.bestR = 0
  offer : (s.offers 0).there = true → s.offers 0 = ⟨true, 0, X⟩
  vote : ∀ r k q x, s.votes r k q = some x → r = 0 ∧ x = X
  own0 : s.step = 0 → s.votes 0 0 i = none ∧ s.votes 0 1 i = none
  own1 : s.step = 1 → s.votes 0 0 i = some X ∧ s.votes 0 1 i = none
  own2 : s.step = 2 → s.votes 0 0 i = some X ∧ s.votes 0 1 i = some X
  oth : ∀ r k q, q ≠ i → s.votes r k q = V0 r k q
  keep : ∀ c : Int, V0 0 c i = some X → s.votes 0 c i = some X
  acts : ∀ a ∈ g, a.kind = 3 ∨ (∃ c : Int, (c = 0 ∨ c = 1) ∧ a = ⟨2, 0, c, 0, X⟩ ∧ s.votes 0 c i = some X) ∨ a = ⟨4, 0, 0, 0, X⟩
  mine : ∀ c : Int, s.votes 0 c i = some X → V0 0 c i = some X ∨ (⟨2, 0, c, 0, X⟩ : ActS) ∈ g
  over : s.step = 3 → (⟨4, 0, 0, 0, X⟩ : ActS) ∈ g ∧ need N ≤ (forN N s.votes 0 1 X : Int)
  few : cnt2 g + fr i s.votes ≤ fr i V0
  offs : s.offers = o0
theorem LvI.sure {N : Nat} {i : Int} {X : List UInt8} {V0 : Vt} {o0 : Nat → OfferS} {s : RdS} {g : List ActS} (h : LvI N i X V0 o0 s g) {r k : Int} {x : List UInt8} (hs : sureS s r k = some x) : r = 0 ∧ x = X := by
  obtain ⟨q, _, hq⟩ := sureO_vote (sureS_some hs).1
  exact h.vote _ _ _ _ hq
theorem LvI.code {N : Nat} {i : Int} {X : List UInt8} {V0 : Vt} {o0 : Nat → OfferS} {s : RdS} {g : List ActS} (h : LvI N i X V0 o0 s g) (hok : RdOk s) (hz : X ≠ zeroId) {c : Int} (hc : c = 0 ∨ c = 1) (hn : s.votes 0 c i = none) : putCode s.voters s.votes s.round c s.me X = 0 := by
  unfold putCode
  have hme := hok.me
  have hp : okPut s.voters s.round c s.me X = true := by
    have hzb : (X == zeroId) = false := by rw [beq_eq_false_iff_ne]; exact hz
    unfold okPut
    rw [hzb, h.round]
    simp
    omega
  rw [hp, h.round, h.meq, hn]
  rfl
/-- A vote that is cast. -/
theorem cast_lv {N : Nat} {i : Int} {X : List UInt8} {V0 : Vt} {o0 : Nat → OfferS} {s s1 : RdS} {g : List ActS} (h : LvI N i X V0 o0 s g) (hok : RdOk s) (hz : X ≠ zeroId) (c : Int) (hc : c = 0 ∨ c = 1) (hn : s.votes 0 c i = none)
    (e1 : s1.voters = s.voters) (e2 : s1.me = s.me) (e3 : s1.votes = s.votes) (e4 : s1.round = s.round) (e5 : s1.known = s.known) (e6 : s1.offers = s.offers) (hlk : s1.lockR = 0 ∨ s1.lock = X) (hb : c = 0 → s1.bestR = 0)
    (h1 : c = 1 → s.votes 0 0 i = some X) (h0 : c = 0 → s.votes 0 1 i = none) : LvI N i X V0 o0 (castS s1 c X) (g ++ castA s1 c X) := by
  have hp := h.code hok hz hc hn
  have ea : castA s1 c X = [⟨2, 0, c, 0, X⟩] := by
    unfold castA
    rw [e1, e2, e3, e4, if_pos hp, h.round]
  rw [ea]
  obtain ⟨V', hV'⟩ : ∃ V', putT s.voters s.votes s.round c s.me X = V' := ⟨_, rfl⟩
  have hvs : (castS s1 c X).votes = V' := by
    show putT s1.voters s1.votes s1.round c s1.me X = _
    rw [e1, e2, e3, e4, hV']
  have hnew : V' 0 c i = some X := by
    have := putT_new hp
    rw [hV', h.round, h.meq] at this
    exact this
  have hfar : ∀ r j q, ¬ (r = 0 ∧ j = c ∧ q = i) → V' r j q = s.votes r j q := fun r j q hne => by
    rw [← hV', h.round, h.meq]
    exact putT_far hne
  have hkeep : ∀ r j q x, s.votes r j q = some x → V' r j q = some x := fun r j q x hx => by rw [← hV']; exact putT_keeps hx
  have hst : (castS s1 c X).step = behS c := rfl
  refine ⟨e1.trans h.voters, e2.trans h.meq, e5.trans h.known, e4.trans h.round, hlk, fun hs => ?_, fun ho => ?_, fun r k q x hx => ?_, fun hs => ?_, fun hs => ?_, fun hs => ?_, fun r k q hq => ?_, fun c' hc' => ?_, fun a ha => ?_, fun c' hc' => ?_, fun hs => ?_, ?_, e6.trans h.offs⟩
  · rw [hst] at hs
    unfold behS at hs
    rcases hc with rfl | rfl
    · exact hb rfl
    · rw [if_neg (by decide)] at hs
      omega
  · have ho' : (s1.offers 0).there = true := ho
    rw [e6] at ho'
    show s1.offers 0 = _
    rw [e6]
    exact h.offer ho'
  · rw [hvs] at hx
    by_cases hh : r = 0 ∧ k = c ∧ q = i
    · obtain ⟨rfl, rfl, rfl⟩ := hh
      rw [hnew] at hx
      exact ⟨rfl, (Option.some.inj hx).symm⟩
    · rw [hfar r k q hh] at hx
      exact h.vote r k q x hx
  · rw [hst] at hs
    unfold behS at hs
    split at hs <;> omega
  · rw [hst] at hs
    have hc0 : c = 0 := by
      rcases hc with e | e
      · exact e
      · rw [e] at hs
        exact absurd hs (by decide)
    rw [hvs, hfar 0 1 i (by omega)]
    rw [hc0] at hnew
    exact ⟨hnew, h0 hc0⟩
  · rw [hst] at hs
    have hc1 : c = 1 := by
      rcases hc with e | e
      · rw [e] at hs
        exact absurd hs (by decide)
      · exact e
    rw [hvs]
    rw [hc1] at hnew
    exact ⟨hkeep _ _ _ _ (h1 hc1), hnew⟩
  · rw [hvs, hfar r k q (fun e => hq e.2.2)]
    exact h.oth r k q hq
  · rw [hvs]
    exact hkeep _ _ _ _ (h.keep c' hc')
  · rcases List.mem_append.1 ha with ha | ha
    · rcases h.acts a ha with q | ⟨c', q1, q2, q3⟩ | q
      · exact .inl q
      · exact .inr (.inl ⟨c', q1, q2, by rw [hvs]; exact hkeep _ _ _ _ q3⟩)
      · exact .inr (.inr q)
    · rw [List.mem_singleton] at ha
      exact .inr (.inl ⟨c, hc, ha, by rw [hvs]; exact hnew⟩)
  · rw [hvs] at hc'
    by_cases hh : c' = c
    · rw [hh]
      exact .inr (List.mem_append_right _ (List.mem_singleton.2 rfl))
    · rw [hfar 0 c' i (fun e => hh e.2.1)] at hc'
      rcases h.mine c' hc' with q | q
      · exact .inl q
      · exact .inr (List.mem_append_left _ q)
  · rw [hst] at hs
    unfold behS at hs
    split at hs <;> omega
  · have hf := h.few
    rw [cnt2_app, hvs]
    have e2 : cnt2 [(⟨2, 0, c, 0, X⟩ : ActS)] = 1 := rfl
    rw [e2]
    have hfr : fr i V' + 1 ≤ fr i s.votes := by
      unfold fr
      rcases hc with rfl | rfl
      · rw [hnew, hn, hfar 0 1 i (by omega)]
        simp
        omega
      · rw [hnew, hn, hfar 0 0 i (by omega)]
        simp
    omega
theorem step_lv {N : Nat} (hN : 0 ≤ faults N) {i : Int} {X : List UInt8} (hz : X ≠ zeroId) (hnl : X ≠ nilId) {V0 : Vt} {o0 : Nat → OfferS} : ∀ (s s' : RdS) (l g : List ActS), RdOk s → 0 ≤ s.round → s.step ≠ 3 → LvI N i X V0 o0 s g → nextS s = some (s', l) → LvI N i X V0 o0 s' (g ++ l) := by
  intro s s' l g hok hr hs h hn
  have hstep := hok.step
  unfold nextS at hn
  cases hag : agreedS s with
  | some p =>
    obtain ⟨k, id⟩ := p
    rw [hag] at hn
    dsimp only at hn
    obtain ⟨rfl, rfl⟩ := Prod.mk.inj (Option.some.inj hn)
    obtain ⟨_, h2⟩ := agreed_at hag
    have htal := (sureS_some h2).1
    obtain ⟨hk, rfl⟩ := h.sure h2
    rw [h.voters, hk] at htal
    replace htal := (sureO_iff hN).1 htal
    have ek : (⟨4, (k : Int), 0, 0, id⟩ : ActS) = ⟨4, 0, 0, 0, id⟩ := by rw [hk]
    rw [ek]
    refine ⟨h.voters, h.meq, h.known, h.round, h.lock, fun e => ?_, h.offer, h.vote, fun e => (by cases e), fun e => (by cases e), fun e => (by cases e), h.oth, h.keep, fun a ha => ?_, fun c hc => ?_, fun _ => ⟨List.mem_append_right _ (List.mem_singleton.2 rfl), htal⟩, (by
      rw [cnt2_app]
      exact h.few), h.offs⟩
    · rcases e with e | e <;> cases e
    · rcases List.mem_append.1 ha with ha | ha
      · exact h.acts a ha
      · exact .inr (.inr (List.mem_singleton.1 ha))
    · rcases h.mine c hc with q | q
      · exact .inl q
      · exact .inr (List.mem_append_left _ q)
  | none =>
    rw [hag] at hn
    dsimp only at hn
    have hah : aheadO s.voters s.votes s.round = none := by
      rw [h.voters]
      refine ahead_none hN fun m k q hm => ?_
      cases hv : s.votes m k q with
      | none => rfl
      | some x =>
        have := (h.vote m k q x hv).1
        have := h.round
        omega
    rw [hah] at hn
    dsimp only at hn
    cases hch : choiceS s with
    | some id =>
      rw [hch] at hn
      dsimp only at hn
      obtain ⟨rfl, rfl⟩ := Prod.mk.inj (Option.some.inj hn)
      have h0 := choice_step hch
      have hid : id = X := by
        unfold choiceS at hch
        rw [if_neg (fun e => e h0)] at hch
        dsimp only at hch
        rw [h.round] at hch
        have e0 : (0 : Int).toNat = 0 := rfl
        rw [e0] at hch
        split at hch
        · cases hch
        · rename_i hc
          have hth : (s.offers 0).there = true := by
            cases ht : (s.offers 0).there with
            | true => rfl
            | false => exact absurd (.inl ht) hc
          rw [h.offer hth] at hch
          rw [if_neg (show ¬ (0 : Int) < 0 by decide), if_neg (by rintro ⟨q, _⟩; exact absurd q (show ¬ (0 : Int) < 0 by decide)), if_neg (by
            rintro ⟨q1, q2⟩
            rcases h.lock with e | e
            · rw [e] at q1
              exact absurd q1 (show ¬ (0 : Int) < 0 by decide)
            · exact q2 e)] at hch
          exact (Option.some.inj hch).symm
      subst hid
      have ho := h.own0 h0
      exact cast_lv h hok hz 0 (.inl rfl) ho.1 rfl rfl rfl rfl rfl rfl h.lock (fun _ => h.best (.inl h0)) (fun e => by cases e) (fun _ => ho.2)
    | none =>
      rw [hch] at hn
      dsimp only at hn
      cases hsu : sure0 s with
      | some id =>
        rw [hsu] at hn
        dsimp only at hn
        obtain ⟨rfl, rfl⟩ := Prod.mk.inj (Option.some.inj hn)
        obtain ⟨q0, q1, q2⟩ := sure0_step hsu
        obtain ⟨_, rfl⟩ := h.sure q2
        unfold betterS betterA
        by_cases hs1 : s.step = 1
        · rw [if_pos hs1, if_pos hs1]
          have ho := h.own1 hs1
          exact cast_lv (s1 := lockS (bestS s id)) h hok hz 1 (.inr rfl) ho.2 rfl rfl rfl rfl rfl rfl (.inr rfl) (fun e => by cases e) (fun _ => ho.1) (fun e => by cases e)
        · rw [if_neg hs1, if_neg hs1, List.append_nil]
          exact ⟨h.voters, h.meq, h.known, h.round, h.lock, fun e => (e.elim q0 hs1).elim, h.offer, h.vote, fun e => absurd e q0, fun e => absurd e hs1, h.own2, h.oth, h.keep, h.acts, h.mine, h.over, h.few, h.offs⟩
      | none =>
        rw [hsu] at hn
        dsimp only at hn
        have hnd : nilDue s = false := by
          unfold nilDue
          have e : forN s.voters s.votes s.round 0 nilId = 0 := by
            unfold forN
            rw [List.countP_eq_zero]
            intro q _
            rw [beq_iff_eq]
            intro hq
            exact hnl (h.vote _ _ _ _ hq).2.symm
          rw [e, h.voters]
          have := need_pos hN
          rw [decide_eq_false (p := need (N : Int) ≤ ((0 : Nat) : Int)) (by omega), Bool.and_false]
        rw [hnd] at hn
        cases hn
theorem wait_lv {N : Nat} {i : Int} {X : List UInt8} {V0 : Vt} {o0 : Nat → OfferS} (s : RdS) (tm : Nat → Nat → Bool) (l g : List ActS) (hl : ∀ a ∈ l, a.kind = 3) (h : LvI N i X V0 o0 s g) : LvI N i X V0 o0 { s with timers := tm } (g ++ l) :=
  ⟨h.voters, h.meq, h.known, h.round, h.lock, h.best, h.offer, h.vote, h.own0, h.own1, h.own2, h.oth, h.keep, fun a ha => by
    rcases List.mem_append.1 ha with ha | ha
    · exact h.acts a ha
    · exact .inl (hl a ha), fun c hc => (h.mine c hc).imp id (List.mem_append_left _), fun e => ⟨List.mem_append_left _ (h.over e).1, (h.over e).2⟩, by
    rw [cnt2_app, cnt2_zero (l := l) (fun a ha => by rw [hl a ha]; decide), Nat.add_zero]
    exact h.few, h.offs⟩
/-- Nothing is due any more. -/
structure Rest (N : Nat) (X : List UInt8) (s : RdS) : Prop where
  late : s.step ≠ 3 → ¬ need N ≤ (forN N s.votes 0 1 X : Int)
  early : s.step = 1 → ¬ need N ≤ (forN N s.votes 0 0 X : Int)
  offer : s.step = 0 → (s.offers 0).there = false
theorem LvI.rest {N : Nat} (hN : 0 ≤ faults N) {i : Int} {X : List UInt8} (hnl : X ≠ nilId) {V0 : Vt} {o0 : Nat → OfferS} {s : RdS} {g : List ActS} (h : LvI N i X V0 o0 s g) (hend : s.step = 3 ∨ nextS s = none) : Rest N X s := by
  have hk : hasI s.known X = true := by
    rw [h.known]
    unfold hasI
    simp
  have hsure : ∀ k : Int, need N ≤ (forN N s.votes 0 k X : Int) → sureS s 0 k = some X := fun k hk2 => by
    have := (sureO_iff hN).2 hk2
    unfold sureS
    rw [h.voters, this]
    dsimp only
    have e1 : (X == nilId) = false := by rw [beq_eq_false_iff_ne]; exact hnl
    rw [e1, hk]
    rfl
  rcases hend with h3 | hn
  · exact ⟨fun e => absurd h3 e, fun e => by omega, fun e => by omega⟩
  · have hag : agreedS s = none := by
      cases ha : agreedS s with
      | none => rfl
      | some p => unfold nextS at hn; rw [ha] at hn; cases hn
    have hlate : ¬ need N ≤ (forN N s.votes 0 1 X : Int) := fun hh => by
      have h1 := hsure 1 hh
      unfold agreedS at hag
      rw [List.findSome?_eq_none_iff] at hag
      have h2 := hag 0 (by simp)
      rw [show ((0 : Nat) : Int) = 0 from rfl, h1] at h2
      cases h2
    have hah : aheadO s.voters s.votes s.round = none := by
      rw [h.voters]
      refine ahead_none hN fun m k q hm => ?_
      cases hv : s.votes m k q with
      | none => rfl
      | some x =>
        have := (h.vote m k q x hv).1
        have := h.round
        omega
    have hch : choiceS s = none := by
      cases hc : choiceS s with
      | none => rfl
      | some id => unfold nextS at hn; rw [hag, hah, hc] at hn; cases hn
    have hsu : sure0 s = none := by
      cases hc : sure0 s with
      | none => rfl
      | some id => unfold nextS at hn; rw [hag, hah, hch, hc] at hn; cases hn
    refine ⟨fun _ => hlate, fun h1 hh => ?_, fun h0 => ?_⟩
    · unfold sure0 at hsu
      rw [if_pos ⟨by omega, by rw [h.best (.inr h1), h.round]; decide⟩, h.round, hsure 0 hh] at hsu
      cases hsu
    · cases ht : (s.offers 0).there with
      | false => rfl
      | true =>
        unfold choiceS at hch
        rw [if_neg (fun e => e h0)] at hch
        dsimp only at hch
        rw [h.round] at hch
        have e0 : (0 : Int).toNat = 0 := rfl
        rw [e0, h.offer ht] at hch
        rw [if_neg (by rintro (q | q); cases q; rw [hk] at q; cases q), if_neg (show ¬ (0 : Int) < 0 by decide), if_neg (by rintro ⟨q, _⟩; exact absurd q (show ¬ (0 : Int) < 0 by decide)), if_neg (by
          rintro ⟨q1, q2⟩
          rcases h.lock with e | e
          · rw [e] at q1
            exact absurd q1 (show ¬ (0 : Int) < 0 by decide)
          · exact q2 e)] at hch
        cases hch
end Go.Proofs.Ytbgojlcciealiaa
namespace Go.Proofs.Ytbgojlcciealiaa
open Go Go.RowKit Go.Maps

/-- One between two calls. -/
structure LvQ (N : Nat) (i : Int) (X : List UInt8) (s : RdS) : Prop where
  voters : s.voters = N
  meq : s.me = i
  known : s.known = [X]
  round : s.round = 0
  lock : s.lockR = 0 ∨ s.lock = X
  best : s.step = 0 ∨ s.step = 1 → s.bestR = 0
  offer : (s.offers 0).there = true → s.offers 0 = ⟨true, 0, X⟩
  vote : ∀ r k q x, s.votes r k q = some x → r = 0 ∧ x = X
  own0 : s.step = 0 → s.votes 0 0 i = none ∧ s.votes 0 1 i = none
  own1 : s.step = 1 → s.votes 0 0 i = some X ∧ s.votes 0 1 i = none
  own2 : s.step = 2 → s.votes 0 0 i = some X ∧ s.votes 0 1 i = some X
  over : s.step = 3 → need N ≤ (forN N s.votes 0 1 X : Int)
theorem LvQ.start {N : Nat} {i : Int} {X : List UInt8} {s : RdS} (h : LvQ N i X s) (h3 : s.step ≠ 3) : LvI N i X s.votes s.offers s [] :=
  ⟨h.voters, h.meq, h.known, h.round, h.lock, h.best, h.offer, h.vote, h.own0, h.own1, h.own2, fun _ _ _ _ => rfl, fun _ e => e, fun a ha => (by cases ha), fun _ e => .inl e, fun e => absurd e h3, by unfold cnt2; simp, rfl⟩
theorem LvI.quiet {N : Nat} {i : Int} {X : List UInt8} {V0 : Vt} {o0 : Nat → OfferS} {s : RdS} {g : List ActS} (h : LvI N i X V0 o0 s g) : LvQ N i X s :=
  ⟨h.voters, h.meq, h.known, h.round, h.lock, h.best, h.offer, h.vote, h.own0, h.own1, h.own2, fun e => (h.over e).2⟩
/-- What a call leaves, of who isn't done. -/
theorem LvQ.settles {N : Nat} (hN : 0 ≤ faults N) {i : Int} {X : List UInt8} (hz : X ≠ zeroId) (hnl : X ≠ nilId) {s : RdS} (hg : GoodS s) (h : LvQ N i X s) (h3 : s.step ≠ 3) : GoodS (settleS s) ∧ LvI N i X s.votes s.offers (settleS s) (settleA s) ∧ Rest N X (settleS s) := by
  have h1 := settleF_ends (fun t g => VtsOk t.votes ∧ LvI N i X s.votes s.offers t g)
    (fun t t' l g hok hr hs hI hn => by
      have hgt : GoodS t := ⟨hok, hI.1⟩
      have hst := next_step hgt hr hn
      have hg' := step_goodS hgt hst
      exact ⟨hg'.ok, fun _ => step_round hr hst, hg'.vts, step_lv hN hz hnl t t' l g hok hr hs hI.2 hn⟩)
    (fun t tm l g hl hI => ⟨hI.1, wait_lv t tm l g hl hI.2⟩) 200 s [] hg.ok (early_round hg.ok) (mu_lt hg.ok) ⟨hg.vts, h.start h3⟩
  rw [List.nil_append] at h1
  exact ⟨settle_goodS hg, h1.1.2, h1.1.2.rest hN hnl h1.2⟩
/-- One who is done does nothing. -/
theorem settle_done {s : RdS} (h3 : s.step = 3) : settleS s = s ∧ settleA s = [] := by
  unfold settleS settleA
  rw [settleF_over 200 h3]
  exact ⟨rfl, rfl⟩
/-- All, and what is on its way. -/
structure Play (N p : Nat) (X : List UInt8) (st : Nat → RdS) (ms : List MailS) (ds : List (List UInt8)) : Prop where
  len : ds.length = N
  good : ∀ i, i < N → GoodS (st i)
  each : ∀ i, i < N → LvQ N (i : Int) X (st i)
  rest : ∀ i, i < N → Rest N X (st i)
  cast : ∀ i j, i < N → j < N → ∀ c : Int, (st j).votes 0 c (i : Int) = some X → (st i).votes 0 c (i : Int) = some X
  sent : ∀ i j, i < N → j < N → i ≠ j → ∀ c : Int, (c = 0 ∨ c = 1) → (st i).votes 0 c (i : Int) = some X → (st j).votes 0 c (i : Int) = some X ∨ (⟨(i : Int), (j : Int), ⟨2, 0, c, 0, X⟩⟩ : MailS) ∈ ms
  offer : ∀ j, j < N → ((st j).offers 0).there = true ∨ (⟨(p : Int), (j : Int), ⟨1, 0, 0, 0, X⟩⟩ : MailS) ∈ ms
  mail : ∀ m ∈ ms, ∃ i j : Nat, i < N ∧ j < N ∧ i ≠ j ∧ ((∃ c : Int, (c = 0 ∨ c = 1) ∧ m = ⟨(i : Int), (j : Int), ⟨2, 0, c, 0, X⟩⟩ ∧ (st i).votes 0 c (i : Int) = some X) ∨ m = ⟨(i : Int), (j : Int), ⟨1, 0, 0, 0, X⟩⟩)
  done : ∀ j, j < N → (st j).step = 3 → ds[j]? = some X
theorem forN_full {N : Nat} {V : Vt} {k : Int} {X : List UInt8} (h : ∀ q : Nat, q < N → V 0 k (q : Int) = some X) : forN N V 0 k X = N := by
  unfold forN
  have : (List.range N).countP (fun (q : Nat) => V 0 k (q : Int) == some X) = (List.range N).length := by
    rw [List.countP_eq_length]
    intro q hq
    rw [h q (List.mem_range.1 hq)]
    simp
  rw [this, List.length_range]
theorem need_le {N : Nat} (hN : 0 ≤ faults (N : Int)) : need (N : Int) ≤ (N : Int) := by
  have := faults_cases hN
  unfold need
  omega
/-- Where nothing is on its way any more, all are done. -/
theorem Play.ends {N p : Nat} {X : List UInt8} {st : Nat → RdS} {ds : List (List UInt8)} (hN : 0 ≤ faults (N : Int)) (h : Play N p X st [] ds) : ∀ j, j < N → ds[j]? = some X := by
  have hsent : ∀ i j, i < N → j < N → ∀ c : Int, (c = 0 ∨ c = 1) → (st i).votes 0 c (i : Int) = some X → (st j).votes 0 c (i : Int) = some X := by
    intro i j hi hj c hc hv
    by_cases e : i = j
    · subst e
      exact hv
    · rcases h.sent i j hi hj e c hc hv with q | q
      · exact q
      · cases q
  have hall : ∀ k, k < N → (st k).step = 3 := by
    by_cases hany : ∃ j, j < N ∧ (st j).step = 3
    · obtain ⟨j, hj, h3⟩ := hany
      intro k hk
      have h1 := (h.each j hj).over h3
      have h2 := forN_mono (n := N) (V := (st j).votes) (V' := (st k).votes) (r := 0) (k := 1) (x := X) (fun q hq hv => hsent q k hq hk 1 (.inr rfl) (h.cast q j hq hj 1 hv))
      refine Classical.byContradiction fun hne => (h.rest k hk).late hne ?_
      omega
    · have hno : ∀ k, k < N → (st k).step ≠ 3 := fun k hk e => hany ⟨k, hk, e⟩
      have hne0 : ∀ k, k < N → (st k).step ≠ 0 := fun k hk e => by
        have h1 := (h.rest k hk).offer e
        rcases h.offer k hk with q | q
        · rw [h1] at q
          cases q
        · cases q
      have h12 : ∀ k, k < N → (st k).step = 1 ∨ (st k).step = 2 := fun k hk => by
        have := (h.good k hk).ok.step
        have := hno k hk
        have := hne0 k hk
        omega
      have hv0 : ∀ k, k < N → (st k).votes 0 0 (k : Int) = some X := fun k hk => by
        rcases h12 k hk with e | e
        · exact ((h.each k hk).own1 e).1
        · exact ((h.each k hk).own2 e).1
      have hnd := need_le hN
      have h2 : ∀ k, k < N → (st k).step = 2 := fun k hk => by
        rcases h12 k hk with e | e
        · refine absurd ?_ ((h.rest k hk).early e)
          rw [forN_full fun q hq => hsent q k hq hk 0 (.inl rfl) (hv0 q hq)]
          exact hnd
        · exact e
      intro k hk
      refine absurd ?_ ((h.rest k hk).late (hno k hk))
      rw [forN_full fun q hq => hsent q k hq hk 1 (.inr rfl) ((h.each q hq).own2 (h2 q hq)).2]
      exact hnd
  exact fun j hj => h.done j hj (hall j hj)
end Go.Proofs.Ytbgojlcciealiaa
namespace Go.Proofs.Ytbgojlcciealiaa
open Go Go.RowKit Go.Maps

/-- What a call leaves of who has heard so much. -/
structure After (N : Nat) (i : Int) (X : List UInt8) (s1 s2 : RdS) (g : List ActS) : Prop where
  good : GoodS s2
  one : LvQ N i X s2
  rest : Rest N X s2
  oth : ∀ r k q, q ≠ i → s2.votes r k q = s1.votes r k q
  keep : ∀ c : Int, s1.votes 0 c i = some X → s2.votes 0 c i = some X
  acts : ∀ a ∈ g, a.kind = 3 ∨ (∃ c : Int, (c = 0 ∨ c = 1) ∧ a = ⟨2, 0, c, 0, X⟩ ∧ s2.votes 0 c i = some X) ∨ a = ⟨4, 0, 0, 0, X⟩
  mine : ∀ c : Int, s2.votes 0 c i = some X → s1.votes 0 c i = some X ∨ (⟨2, 0, c, 0, X⟩ : ActS) ∈ g
  over : s2.step = 3 → s1.step = 3 ∨ (⟨4, 0, 0, 0, X⟩ : ActS) ∈ g
  few : cnt2 g + fr i s2.votes ≤ fr i s1.votes
  offs : s2.offers = s1.offers
theorem LvQ.after {N : Nat} (hN : 0 ≤ faults N) {i : Int} {X : List UInt8} (hz : X ≠ zeroId) (hnl : X ≠ nilId) {s : RdS} (hg : GoodS s) (h : LvQ N i X s) : After N i X s (settleS s) (settleA s) := by
  by_cases h3 : s.step = 3
  · rw [(settle_done h3).1, (settle_done h3).2]
    exact ⟨hg, h, ⟨fun e => absurd h3 e, fun e => by omega, fun e => by omega⟩, fun _ _ _ _ => rfl, fun _ e => e, fun a ha => (by cases ha), fun _ e => .inl e, fun e => .inl e, by unfold cnt2; simp, rfl⟩
  · obtain ⟨h1, h2, h4⟩ := h.settles hN hz hnl hg h3
    exact ⟨h1, h2.quiet, h4, h2.oth, h2.keep, h2.acts, h2.mine, fun e => .inr (h2.over e).1, h2.few, h2.offs⟩
/-- What was heard. -/
structure Heard (N : Nat) (i : Int) (X : List UInt8) (s s1 : RdS) : Prop where
  good : GoodS s1
  one : LvQ N i X s1
  step : s1.step = s.step
  keep : ∀ (c q : Int), s.votes 0 c q = some X → s1.votes 0 c q = some X
  own : ∀ r k : Int, s1.votes r k i = s.votes r k i
  offs : (s.offers 0).there = true → (s1.offers 0).there = true
theorem LvQ.voted {N : Nat} {i : Int} {X : List UInt8} (hz : X ≠ zeroId) (hX : IdOk X) {s : RdS} (hg : GoodS s) (h : LvQ N i X s) {c : Int} (hc : c = 0 ∨ c = 1) {q : Nat} (hq : q < N) (hne : (q : Int) ≠ i) :
    Heard N i X s (votS s 0 c q X) ∧ (votS s 0 c q X).votes 0 c q = some X ∧ (∀ r k q' : Int, ¬ (r = 0 ∧ k = c ∧ q' = q) → (votS s 0 c q X).votes r k q' = s.votes r k q') := by
  have hg' := vot_goodS hg 0 c q hX
  have he : votS s 0 c q X = { s with votes := putT s.voters s.votes 0 c q X } := by
    unfold votS
    rw [if_pos (by rw [h.meq]; exact hne)]
  rw [he] at hg' ⊢
  obtain ⟨V', hV'⟩ : ∃ V', putT s.voters s.votes 0 c q X = V' := ⟨_, rfl⟩
  rw [hV'] at hg' ⊢
  have hfar : ∀ r k q' : Int, ¬ (r = 0 ∧ k = c ∧ q' = q) → V' r k q' = s.votes r k q' := fun r k q' hn => by
    rw [← hV']
    exact putT_far hn
  have hkeep : ∀ (r k q' : Int) (x : List UInt8), s.votes r k q' = some x → V' r k q' = some x := fun r k q' x hx => by
    rw [← hV']
    exact putT_keeps hx
  have hnew : V' 0 c q = some X := by
    cases hv : s.votes 0 c q with
    | some x =>
      have := (h.vote _ _ _ _ hv).2
      rw [this] at hv
      exact hkeep _ _ _ _ hv
    | none =>
      rw [← hV']
      refine putT_new ?_
      unfold putCode
      have hp : okPut s.voters 0 c q X = true := by
        have hzb : (X == zeroId) = false := by rw [beq_eq_false_iff_ne]; exact hz
        have hvn := h.voters
        unfold okPut
        rw [hzb]
        simp
        omega
      rw [hp, hv]
      rfl
  have hown : ∀ r k : Int, V' r k i = s.votes r k i := fun r k => hfar r k i (fun e => hne e.2.2.symm)
  refine ⟨⟨hg', ⟨h.voters, h.meq, h.known, h.round, h.lock, h.best, h.offer, fun r k q' x hx => ?_, fun e => ?_, fun e => ?_, fun e => ?_, fun e => ?_⟩, rfl, fun c' q' hx => hkeep _ _ _ _ hx, hown, fun e => e⟩, hnew, hfar⟩
  · have hx' : V' r k q' = some x := hx
    by_cases hh : r = 0 ∧ k = c ∧ q' = q
    · obtain ⟨rfl, rfl, rfl⟩ := hh
      rw [hnew] at hx'
      exact ⟨rfl, (Option.some.inj hx').symm⟩
    · rw [hfar r k q' hh] at hx'
      exact h.vote r k q' x hx'
  · show V' 0 0 i = none ∧ V' 0 1 i = none
    rw [hown, hown]
    exact h.own0 e
  · show V' 0 0 i = _ ∧ V' 0 1 i = none
    rw [hown, hown]
    exact h.own1 e
  · show V' 0 0 i = _ ∧ V' 0 1 i = _
    rw [hown, hown]
    exact h.own2 e
  · have h1 := h.over e
    have h2 := forN_mono (n := N) (V := s.votes) (V' := V') (r := 0) (k := 1) (x := X) (fun _ _ hv => hkeep _ _ _ _ hv)
    show need N ≤ (forN N V' 0 1 X : Int)
    omega
theorem LvQ.offered {N : Nat} {i : Int} {X : List UInt8} (hz : X ≠ zeroId) (hnl : X ≠ nilId) (hX : IdOk X) {s : RdS} (hg : GoodS s) (h : LvQ N i X s) :
    Heard N i X s (offrS s 0 0 X) ∧ ((offrS s 0 0 X).offers 0).there = true ∧ (offrS s 0 0 X).votes = s.votes := by
  have hg' := offr_goodS hg 0 0 hX
  have he : offrS s 0 0 X = layS s 0 0 X := by
    unfold offrS
    rw [if_pos ⟨by omega, hz, hnl⟩]
    rfl
  rw [he] at hg' ⊢
  unfold layS at hg' ⊢
  by_cases ht : (s.offers 0).there = false
  · have hc : (s.offers 0).there = false ∧ (0 : Int) ≤ 0 ∧ (0 : Int) ≤ ((0 : Nat) : Int) := ⟨ht, by omega, by omega⟩
    rw [if_pos hc] at hg' ⊢
    exact ⟨⟨hg', ⟨h.voters, h.meq, h.known, h.round, h.lock, h.best, fun _ => rfl, h.vote, h.own0, h.own1, h.own2, h.over⟩, rfl, fun _ _ hx => hx, fun _ _ => rfl, fun _ => rfl⟩, rfl, rfl⟩
  · rw [if_neg (fun e => ht e.1)] at hg' ⊢
    have ht' : (s.offers 0).there = true := by
      cases hh : (s.offers 0).there with
      | true => rfl
      | false => exact absurd hh ht
    exact ⟨⟨hg', h, rfl, fun _ _ hx => hx, fun _ _ => rfl, fun e => e⟩, ht', rfl⟩
end Go.Proofs.Ytbgojlcciealiaa
namespace Go.Proofs.Ytbgojlcciealiaa
open Go Go.RowKit Go.Maps

theorem sendM_all (H i : Nat) (a : ActS) (ms : List MailS) : ∀ n : Nat, ms.length + n ≤ 2000 → (sendM H i a ms n).length ≤ ms.length + n ∧ (∀ m ∈ ms, m ∈ sendM H i a ms n) ∧ (∀ q : Nat, q < n → q ≠ i → (⟨(i : Int), (q : Int), a⟩ : MailS) ∈ sendM H i a ms n) ∧ ∀ m ∈ sendM H i a ms n, m ∈ ms ∨ ∃ q : Nat, q < n ∧ q ≠ i ∧ m = ⟨(i : Int), (q : Int), a⟩ := by
  intro n
  induction n with
  | zero =>
    intro _
    exact ⟨Nat.le_refl _, fun m hm => hm, fun q hq => absurd hq (Nat.not_lt_zero _), fun m hm => .inl hm⟩
  | succ n ih =>
    intro hl
    obtain ⟨h1, h2, h3, h4⟩ := ih (by omega)
    rw [sendM_succ]
    by_cases hn : n ≠ i
    · rw [if_pos ⟨hn, by omega⟩]
      refine ⟨by rw [List.length_append, List.length_singleton]; omega, fun m hm => List.mem_append_left _ (h2 m hm), fun q hq hqi => ?_, fun m hm => ?_⟩
      · by_cases e : q = n
        · rw [e]
          exact List.mem_append_right _ (List.mem_singleton.2 rfl)
        · exact List.mem_append_left _ (h3 q (by omega) hqi)
      · rcases List.mem_append.1 hm with hm | hm
        · rcases h4 m hm with q | ⟨q, q1, q2, q3⟩
          · exact .inl q
          · exact .inr ⟨q, by omega, q2, q3⟩
        · exact .inr ⟨n, by omega, hn, List.mem_singleton.1 hm⟩
    · rw [if_neg (fun e => hn e.1)]
      refine ⟨by omega, h2, fun q hq hqi => h3 q (by omega) hqi, fun m hm => ?_⟩
      rcases h4 m hm with q | ⟨q, q1, q2, q3⟩
      · exact .inl q
      · exact .inr ⟨q, by omega, q2, q3⟩
/-- How many acts are sent. -/
def cntS (g : List ActS) : Nat := g.countP fun a => decide (a.kind = 1 ∨ a.kind = 2)
theorem takeM_all (H i : Nat) : ∀ (g : List ActS) (ms : List MailS), ms.length + H * cntS g ≤ 2000 → (g.foldl (takeM1 H i) ms).length ≤ ms.length + H * cntS g ∧ (∀ m ∈ ms, m ∈ g.foldl (takeM1 H i) ms) ∧ (∀ a ∈ g, (a.kind = 1 ∨ a.kind = 2) → ∀ q : Nat, q < H → q ≠ i → (⟨(i : Int), (q : Int), a⟩ : MailS) ∈ g.foldl (takeM1 H i) ms) ∧ ∀ m ∈ g.foldl (takeM1 H i) ms, m ∈ ms ∨ ∃ (a : ActS) (q : Nat), a ∈ g ∧ (a.kind = 1 ∨ a.kind = 2) ∧ q < H ∧ q ≠ i ∧ m = ⟨(i : Int), (q : Int), a⟩ := by
  intro g
  induction g with
  | nil =>
    intro ms _
    exact ⟨Nat.le_add_right _ _, fun m hm => hm, fun a ha => (by cases ha), fun m hm => .inl hm⟩
  | cons a g ih =>
    intro ms hl
    rw [List.foldl_cons]
    by_cases hk : a.kind = 1 ∨ a.kind = 2
    · have ec : cntS (a :: g) = cntS g + 1 := by
        unfold cntS
        rw [List.countP_cons_of_pos (by rw [decide_eq_true_eq]; exact hk)]
      have em : takeM1 H i ms a = sendM H i a ms H := if_pos hk
      rw [ec, Nat.mul_add, Nat.mul_one] at hl ⊢
      rw [em]
      obtain ⟨h1, h2, h3, h4⟩ := sendM_all H i a ms H (by omega)
      obtain ⟨k1, k2, k3, k4⟩ := ih (sendM H i a ms H) (by omega)
      refine ⟨by omega, fun m hm => k2 m (h2 m hm), fun b hb hbk q hq hqi => ?_, fun m hm => ?_⟩
      · rcases List.mem_cons.1 hb with e | hb
        · rw [e]
          exact k2 _ (h3 q hq hqi)
        · exact k3 b hb hbk q hq hqi
      · rcases k4 m hm with hm | ⟨b, q, hb, r⟩
        · rcases h4 m hm with hm | ⟨q, q1, q2, q3⟩
          · exact .inl hm
          · exact .inr ⟨a, q, List.mem_cons_self, hk, q1, q2, q3⟩
        · exact .inr ⟨b, q, List.mem_cons_of_mem _ hb, r⟩
    · have ec : cntS (a :: g) = cntS g := by
        unfold cntS
        rw [List.countP_cons_of_neg (by rw [decide_eq_true_eq]; exact hk)]
      have em : takeM1 H i ms a = ms := if_neg hk
      rw [ec] at hl ⊢
      rw [em]
      obtain ⟨k1, k2, k3, k4⟩ := ih ms hl
      refine ⟨k1, k2, fun b hb hbk q hq hqi => ?_, fun m hm => ?_⟩
      · rcases List.mem_cons.1 hb with e | hb
        · rw [e] at hbk
          exact absurd hbk hk
        · exact k3 b hb hbk q hq hqi
      · rcases k4 m hm with hm | ⟨b, q, hb, r⟩
        · exact .inl hm
        · exact .inr ⟨b, q, List.mem_cons_of_mem _ hb, r⟩
/-- Who is done is written down. -/
theorem takeD_all (i : Nat) (X : List UInt8) : ∀ (g : List ActS) (ds : List (List UInt8)), i < ds.length → (∀ a ∈ g, a.kind = 4 → a.id = X) → (g.foldl (takeD1 i) ds).length = ds.length ∧ (∀ j, j ≠ i → (g.foldl (takeD1 i) ds)[j]? = ds[j]?) ∧ (ds[i]? = some X → (g.foldl (takeD1 i) ds)[i]? = some X) ∧ ((∃ a ∈ g, a.kind = 4) → (g.foldl (takeD1 i) ds)[i]? = some X) := by
  intro g
  induction g with
  | nil =>
    intro ds _ _
    exact ⟨rfl, fun _ _ => rfl, fun e => e, fun ⟨a, ha, _⟩ => (by cases ha)⟩
  | cons a g ih =>
    intro ds hi hX
    rw [List.foldl_cons]
    by_cases hk : a.kind = 4
    · have em : takeD1 i ds a = ds.set i a.id := if_pos hk
      have eid := hX a List.mem_cons_self hk
      rw [em, eid]
      obtain ⟨k1, k2, k3, k4⟩ := ih (ds.set i X) (by rw [List.length_set]; exact hi) (fun b hb => hX b (List.mem_cons_of_mem _ hb))
      have hset : (ds.set i X)[i]? = some X := by rw [List.getElem?_set_self hi]
      refine ⟨by rw [k1, List.length_set], fun j hj => ?_, fun _ => k3 hset, fun _ => k3 hset⟩
      rw [k2 j hj, List.getElem?_set_ne (fun e => hj e.symm)]
    · have em : takeD1 i ds a = ds := if_neg hk
      rw [em]
      obtain ⟨k1, k2, k3, k4⟩ := ih ds hi (fun b hb => hX b (List.mem_cons_of_mem _ hb))
      refine ⟨k1, k2, k3, fun ⟨b, hb, hb4⟩ => ?_⟩
      rcases List.mem_cons.1 hb with e | hb
      · rw [e] at hb4
        exact absurd hb4 hk
      · exact k4 ⟨b, hb, hb4⟩
end Go.Proofs.Ytbgojlcciealiaa
namespace Go.Proofs.Ytbgojlcciealiaa
open Go Go.RowKit Go.Maps

def updP (st : Nat → RdS) (j : Nat) (s : RdS) : Nat → RdS := fun k => if k = j then s else st k
theorem updP_at (st : Nat → RdS) (j : Nat) (s : RdS) : updP st j s j = s := if_pos rfl
theorem updP_ne (st : Nat → RdS) {j k : Nat} (s : RdS) (h : k ≠ j) : updP st j s k = st k := if_neg h
/-- How many votes are still to come of all. -/
def frs : Nat → (Nat → RdS) → Nat
  | 0, _ => 0
  | n + 1, st => frs n st + fr (n : Int) (st n).votes
theorem frs_far (st : Nat → RdS) (j : Nat) (s : RdS) : ∀ n, n ≤ j → frs n (updP st j s) = frs n st := by
  intro n
  induction n with
  | zero => intro _; rfl
  | succ n ih =>
    intro hn
    show frs n (updP st j s) + _ = frs n st + _
    rw [ih (by omega), updP_ne st s (by omega)]
theorem frs_upd (st : Nat → RdS) (j : Nat) (s : RdS) : ∀ n, j < n → frs n (updP st j s) + fr (j : Int) (st j).votes = frs n st + fr (j : Int) s.votes := by
  intro n
  induction n with
  | zero => intro h; omega
  | succ n ih =>
    intro hn
    show frs n (updP st j s) + fr (n : Int) (updP st j s n).votes + _ = frs n st + fr (n : Int) (st n).votes + _
    by_cases e : j = n
    · subst e
      rw [frs_far st j s j (Nat.le_refl _), updP_at]
      omega
    · rw [updP_ne st s (fun q => e q.symm)]
      have := ih (by omega)
      omega
theorem cntS_le {g : List ActS} (h : ∀ a ∈ g, a.kind ≠ 1) : cntS g ≤ cnt2 g := by
  unfold cntS cnt2
  refine List.countP_mono_left fun a ha hk => ?_
  rw [decide_eq_true_eq] at hk
  rw [beq_iff_eq]
  rcases hk with e | e
  · exact absurd e (h a ha)
  · exact e
set_option maxHeartbeats 1000000 in
theorem Play.hears {N p : Nat} {X : List UInt8} {st : Nat → RdS} {ms mr : List MailS} {ds : List (List UInt8)} (hN : 0 ≤ faults (N : Int)) (hz : X ≠ zeroId) (hnl : X ≠ nilId) (h : Play N p X st ms ds) {j : Nat} (hj : j < N) {s1 : RdS} (hh : Heard N (j : Int) X (st j) s1)
    (hsub : ∀ m ∈ mr, m ∈ ms)
    (hcast : ∀ i, i < N → i ≠ j → ∀ c : Int, s1.votes 0 c (i : Int) = some X → (st i).votes 0 c (i : Int) = some X)
    (hsent : ∀ i k, i < N → k < N → i ≠ k → ∀ c : Int, (c = 0 ∨ c = 1) → (⟨(i : Int), (k : Int), ⟨2, 0, c, 0, X⟩⟩ : MailS) ∈ ms → (⟨(i : Int), (k : Int), ⟨2, 0, c, 0, X⟩⟩ : MailS) ∈ mr ∨ (k = j ∧ s1.votes 0 c (i : Int) = some X))
    (hoff : ∀ k, k < N → (⟨(p : Int), (k : Int), ⟨1, 0, 0, 0, X⟩⟩ : MailS) ∈ ms → (⟨(p : Int), (k : Int), ⟨1, 0, 0, 0, X⟩⟩ : MailS) ∈ mr ∨ (k = j ∧ (s1.offers 0).there = true))
    (hlen : mr.length + 7 * frs N st ≤ 2000) :
    Play N p X (updP st j (settleS s1)) ((settleA s1).foldl (takeM1 N j) mr) ((settleA s1).foldl (takeD1 j) ds) ∧ ((settleA s1).foldl (takeM1 N j) mr).length + 7 * frs N (updP st j (settleS s1)) ≤ mr.length + 7 * frs N st := by
  have A := hh.one.after hN hz hnl hh.good
  obtain ⟨s2, e2⟩ : ∃ s2, settleS s1 = s2 := ⟨_, rfl⟩
  obtain ⟨g, eg⟩ : ∃ g, settleA s1 = g := ⟨_, rfl⟩
  rw [e2, eg] at A ⊢
  have hfr := frs_upd st j s2 N hj
  have hfw := A.few
  have efr : fr (j : Int) s1.votes = fr (j : Int) (st j).votes := by
    unfold fr
    rw [hh.own, hh.own]
  rw [efr] at hfw
  have hc := cntS_le (g := g) (fun a ha e => by
    rcases A.acts a ha with q | ⟨c, _, q, _⟩ | q
    · omega
    · rw [q] at e; cases e
    · rw [q] at e; cases e)
  have hN7 : N ≤ 7 := by
    have := faults_cases hN
    omega
  have hmul : N * cntS g ≤ 7 * cnt2 g := Nat.mul_le_mul hN7 hc
  obtain ⟨M1, M2, M3, M4⟩ := takeM_all N j g mr (by omega)
  obtain ⟨D1, D2, D3, D4⟩ := takeD_all j X g ds (by rw [h.len]; exact hj) (fun a ha e => by
    rcases A.acts a ha with q | ⟨c, _, q, _⟩ | q
    · omega
    · rw [q] at e; cases e
    · rw [q])
  have hown : ∀ c : Int, (st j).votes 0 c (j : Int) = some X → s2.votes 0 c (j : Int) = some X := fun c hv => A.keep c (by rw [hh.own]; exact hv)
  refine ⟨⟨D1.trans h.len, fun k hk => ?_, fun k hk => ?_, fun k hk => ?_, fun a b ha hb c hv => ?_, fun a b ha hb hab c hc01 hv => ?_, fun k hk => ?_, fun m hm => ?_, fun k hk h3 => ?_⟩, by omega⟩
  · by_cases e : k = j
    · rw [e, updP_at]
      exact A.good
    · rw [updP_ne st s2 e]
      exact h.good k hk
  · by_cases e : k = j
    · rw [e, updP_at]
      exact A.one
    · rw [updP_ne st s2 e]
      exact h.each k hk
  · by_cases e : k = j
    · rw [e, updP_at]
      exact A.rest
    · rw [updP_ne st s2 e]
      exact h.rest k hk
  · by_cases e : a = j
    · rw [e] at hv ⊢
      rw [updP_at]
      by_cases f : b = j
      · rw [f, updP_at] at hv
        exact hv
      · rw [updP_ne st s2 f] at hv
        exact hown c (h.cast j b hj hb c hv)
    · rw [updP_ne st s2 e]
      by_cases f : b = j
      · rw [f, updP_at, A.oth 0 c (a : Int) (by omega)] at hv
        exact hcast a ha e c hv
      · rw [updP_ne st s2 f] at hv
        exact h.cast a b ha hb c hv
  · by_cases e : a = j
    · subst e
      rw [updP_at] at hv
      have hba : b ≠ a := fun q => hab q.symm
      rw [updP_ne st s2 hba]
      rcases A.mine c hv with q | q
      · rw [hh.own] at q
        rcases h.sent a b ha hb hab c hc01 q with r | r
        · exact .inl r
        · rcases hsent a b ha hb hab c hc01 r with t | t
          · exact .inr (M2 _ t)
          · exact absurd t.1 hba
      · exact .inr (M3 _ q (.inr rfl) b hb hba)
    · rw [updP_ne st s2 e] at hv
      have key : (st b).votes 0 c (a : Int) = some X ∨ (b = j ∧ s1.votes 0 c (a : Int) = some X) → (updP st j s2 b).votes 0 c (a : Int) = some X := fun q => by
        by_cases f : b = j
        · rw [f, updP_at, A.oth 0 c (a : Int) (by omega)]
          rcases q with q | q
          · rw [f] at q
            exact hh.keep _ _ q
          · exact q.2
        · rw [updP_ne st s2 f]
          rcases q with q | q
          · exact q
          · exact absurd q.1 f
      rcases h.sent a b ha hb hab c hc01 hv with r | r
      · exact .inl (key (.inl r))
      · rcases hsent a b ha hb hab c hc01 r with t | t
        · exact .inr (M2 _ t)
        · exact .inl (key (.inr t))
  · have key : ((st k).offers 0).there = true ∨ (k = j ∧ (s1.offers 0).there = true) → ((updP st j s2 k).offers 0).there = true := fun q => by
      by_cases f : k = j
      · rw [f, updP_at, A.offs]
        rcases q with q | q
        · rw [f] at q
          exact hh.offs q
        · exact q.2
      · rw [updP_ne st s2 f]
        rcases q with q | q
        · exact q
        · exact absurd q.1 f
    rcases h.offer k hk with r | r
    · exact .inl (key (.inl r))
    · rcases hoff k hk r with t | t
      · exact .inr (M2 _ t)
      · exact .inl (key (.inr t))
  · rcases M4 m hm with hm | ⟨a, q, ha, hk, hq, hqj, em⟩
    · obtain ⟨a, b, ha, hb, hab, q⟩ := h.mail m (hsub m hm)
      refine ⟨a, b, ha, hb, hab, ?_⟩
      rcases q with ⟨c, q1, q2, q3⟩ | q
      · refine .inl ⟨c, q1, q2, ?_⟩
        by_cases e : a = j
        · subst e
          rw [updP_at]
          exact hown c q3
        · rw [updP_ne st s2 e]
          exact q3
      · exact .inr q
    · refine ⟨j, q, hj, hq, fun e => hqj e.symm, ?_⟩
      rcases A.acts a ha with r | ⟨c, r1, r2, r3⟩ | r
      · omega
      · refine .inl ⟨c, r1, by rw [em, r2], ?_⟩
        rw [updP_at]
        exact r3
      · rw [r] at hk
        rcases hk with e | e <;> cases e
  · by_cases e : k = j
    · rw [e] at h3 ⊢
      rw [updP_at] at h3
      rcases A.over h3 with q | q
      · rw [hh.step] at q
        exact D3 (h.done j hj q)
      · exact D4 ⟨_, q, rfl⟩
    · rw [updP_ne st s2 e] at h3
      rw [D2 k e]
      exact h.done k hk h3
end Go.Proofs.Ytbgojlcciealiaa
namespace Go.Proofs.Ytbgojlcciealiaa
open Go Go.RowKit Go.Maps

theorem mem_apart {α : Type} {l1 l2 : List α} {m x : α} (h : x ∈ l1 ++ m :: l2) : x ∈ l1 ++ l2 ∨ x = m := by
  rcases List.mem_append.1 h with h | h
  · exact .inl (List.mem_append_left _ h)
  · rcases List.mem_cons.1 h with h | h
    · exact .inr h
    · exact .inl (List.mem_append_right _ h)
theorem mem_joined {α : Type} {l1 l2 : List α} {m x : α} (h : x ∈ l1 ++ l2) : x ∈ l1 ++ m :: l2 := by
  rcases List.mem_append.1 h with h | h
  · exact List.mem_append_left _ h
  · exact List.mem_append_right _ (List.mem_cons_of_mem _ h)
/-- A mail comes to whom it is for: all is as before, and less is to come. -/
theorem Play.comes {N p : Nat} {X : List UInt8} {st : Nat → RdS} {l1 l2 : List MailS} {m : MailS} {ds : List (List UInt8)} (hN : 0 ≤ faults (N : Int)) (hz : X ≠ zeroId) (hnl : X ≠ nilId) (hX : IdOk X) (h : Play N p X st (l1 ++ m :: l2) ds) (hlen : (l1 ++ l2).length + 7 * frs N st ≤ 2000) :
    ∃ j : Nat, j < N ∧ m.dst = (j : Int) ∧ (∃ i : Nat, i < N ∧ i ≠ j ∧ m.src = (i : Int)) ∧ (m.act.kind = 1 ∨ m.act.kind = 2) ∧
      Play N p X (updP st j (giveS (st j) (mailIn m))) ((giveA (st j) (mailIn m)).foldl (takeM1 N j) (l1 ++ l2)) ((giveA (st j) (mailIn m)).foldl (takeD1 j) ds) ∧
      ((giveA (st j) (mailIn m)).foldl (takeM1 N j) (l1 ++ l2)).length + 7 * frs N (updP st j (giveS (st j) (mailIn m))) ≤ (l1 ++ l2).length + 7 * frs N st := by
  obtain ⟨i, j, hi, hj, hij, hm⟩ := h.mail m (List.mem_append_right _ List.mem_cons_self)
  have hne : (i : Int) ≠ (j : Int) := by omega
  rcases hm with ⟨c, hc, rfl, hv⟩ | rfl
  · refine ⟨j, hj, rfl, ⟨i, hi, hij, rfl⟩, .inr rfl, ?_⟩
    have em : mailIn (⟨(i : Int), (j : Int), ⟨2, 0, c, 0, X⟩⟩ : MailS) = ⟨3, 0, c, (i : Int), 0, X⟩ := if_pos rfl
    rw [em, giveS_voted, giveA_voted]
    obtain ⟨hh, hnew, hfar⟩ := (h.each j hj).voted hz hX (h.good j hj) hc hi hne
    refine h.hears hN hz hnl hj hh (fun x hx => mem_joined hx) (fun a ha haj c' hv' => ?_) (fun a b ha hb hab c' hc' hx => ?_) (fun b hb hx => ?_) hlen
    · by_cases e : c' = c ∧ a = i
      · rw [e.1, e.2]
        exact hv
      · rw [hfar 0 c' (a : Int) (fun q => e ⟨q.2.1, by omega⟩)] at hv'
        exact h.cast a j ha hj c' hv'
    · rcases mem_apart hx with q | q
      · exact .inl q
      · injection q with q1 q2 q3
        injection q3 with _ _ q4
        have ea : a = i := by omega
        have eb : b = j := by omega
        rw [ea, q4]
        exact .inr ⟨eb, hnew⟩
    · rcases mem_apart hx with q | q
      · exact .inl q
      · injection q with _ _ q3
        injection q3 with q4
        cases q4
  · refine ⟨j, hj, rfl, ⟨i, hi, hij, rfl⟩, .inl rfl, ?_⟩
    have em : mailIn (⟨(i : Int), (j : Int), ⟨1, 0, 0, 0, X⟩⟩ : MailS) = ⟨2, 0, 0, 0, 0, X⟩ := if_neg (by decide : ¬ (1 : Int) = 2)
    rw [em, giveS_offered, giveA_offered]
    obtain ⟨hh, hnew, hvs⟩ := (h.each j hj).offered hz hnl hX (h.good j hj)
    refine h.hears hN hz hnl hj hh (fun x hx => mem_joined hx) (fun a ha haj c' hv' => ?_) (fun a b ha hb hab c' hc' hx => ?_) (fun b hb hx => ?_) hlen
    · rw [hvs] at hv'
      exact h.cast a j ha hj c' hv'
    · rcases mem_apart hx with q | q
      · exact .inl q
      · injection q with _ _ q3
        injection q3 with q4
        cases q4
    · rcases mem_apart hx with q | q
      · exact .inl q
      · injection q with q1 q2 _
        exact .inr ⟨by omega, hnew⟩
end Go.Proofs.Ytbgojlcciealiaa
namespace Go.Proofs.Ytbgojlcciealiaa
open Go Go.RowKit Go.Maps

/-- One who knows the thing and hasn't begun. -/
structure Early (N : Nat) (i : Int) (X : List UInt8) (s : RdS) : Prop where
  voters : s.voters = N
  meq : s.me = i
  known : s.known = [X]
  height : s.height = 5
  round : s.round = -1
  lockR : s.lockR = 0
  bestR : s.bestR = 0
  offers : (s.offers 0).there = false
  votes : ∀ r k q, s.votes r k q = none
theorem Early.quiet {N : Nat} {i : Int} {X : List UInt8} {s : RdS} (h : Early N i X s) (id : List UInt8) (tm : Nat → Nat → Bool) (o : Nat → OfferS) (ho : (o 0).there = true → o 0 = ⟨true, 0, X⟩) :
    LvQ N i X { inS (freshS s id) 0 with timers := tm, offers := o } :=
  ⟨h.voters, h.meq, h.known, rfl, .inl h.lockR, fun _ => h.bestR, ho, fun r k q x hx => (by
    have hx' : s.votes r k q = some x := hx
    rw [h.votes] at hx'
    cases hx'), fun _ => ⟨h.votes _ _ _, h.votes _ _ _⟩, fun e => (by cases e), fun e => (by cases e), fun e => (by cases e)⟩
/-- What is there as soon as one has begun. -/
theorem Early.begun {N : Nat} {i : Int} {X id : List UInt8} {s : RdS} (hid : IdOk id) (hz : id ≠ zeroId) (hg : GoodS s) (h : Early N i X s) (hp : proposer N 5 0 = i → id = X) :
    GoodS (begS s id) ∧ LvQ N i X (begS s id) ∧ (begS s id).votes = s.votes ∧ (begS s id).step = 0 ∧ (proposer N 5 0 = i → ((begS s id).offers 0).there = true ∧ begA s id = [⟨1, 0, 0, 0, X⟩]) ∧ (proposer N 5 0 ≠ i → ∀ a ∈ begA s id, a.kind = 3) := by
  have hg' := beg_goodS hg hid
  have hr : ¬ 0 ≤ s.round := by rw [h.round]; omega
  have eS : begS s id = beginS (freshS s id) 0 := by
    unfold begS
    rw [if_neg hr, if_pos hz]
  have eA : begA s id = beginA (freshS s id) 0 := by
    unfold begA
    rw [if_neg hr, if_pos hz]
  rw [eS] at hg' ⊢
  rw [eA]
  have hc : (0 : Int) ≤ 0 ∧ (0 : Int) < 12 := by omega
  have hv : (freshS s id).voters = N := h.voters
  have hh : (freshS s id).height = 5 := h.height
  have hm : (freshS s id).me = i := h.meq
  have ho : ((freshS s id).offers (0 : Int).toNat).there = false := h.offers
  by_cases hpi : proposer N 5 0 = i
  · have eid := hp hpi
    subst eid
    have hbz : (id == zeroId) = false := by rw [beq_eq_false_iff_ne]; exact hz
    have hpr : propS (freshS s id) = ⟨true, 0, id⟩ := by
      unfold propS
      have hb : (freshS s id).bestR = 0 := h.bestR
      have hf : (freshS s id).fresh = id := rfl
      rw [hb, hf, if_neg (by omega), hbz]
      rfl
    have e1 : beginS (freshS s id) 0 = offS (inS (freshS s id) 0) (0 : Int).toNat ⟨true, 0, id⟩ := by
      unfold beginS
      rw [if_pos hc, hv, hh, hm, if_neg (fun e => e hpi), ho, if_neg (by decide), hpr, if_neg (by simp)]
    have e2 : beginA (freshS s id) 0 = [⟨1, 0, 0, 0, id⟩] := by
      unfold beginA
      rw [if_pos hc, hv, hh, hm, if_neg (fun e => e hpi), ho, if_neg (by decide), hpr, if_neg (by simp)]
    rw [e1] at hg' ⊢
    rw [e2]
    exact ⟨hg', h.quiet id (freshS s id).timers _ (fun _ => rfl), rfl, rfl, fun _ => ⟨rfl, rfl⟩, fun e => absurd hpi e⟩
  · have e1 : beginS (freshS s id) 0 = timerS (inS (freshS s id) 0) (0 : Int).toNat 0 := by
      unfold beginS
      rw [if_pos hc, hv, hh, hm, if_pos hpi]
    have e2 : beginA (freshS s id) 0 = timerA (inS (freshS s id) 0) (0 : Int).toNat 0 := by
      unfold beginA
      rw [if_pos hc, hv, hh, hm, if_pos hpi]
    rw [e1] at hg' ⊢
    rw [e2]
    obtain ⟨tm, et⟩ := timerS_form (inS (freshS s id) 0) (0 : Int).toNat 0
    rw [et] at hg' ⊢
    refine ⟨hg', h.quiet id tm s.offers (fun e => ?_), rfl, rfl, fun e => absurd e hpi, fun _ a ha => ?_⟩
    · rw [h.offers] at e
      cases e
    · unfold timerA at ha
      split at ha
      · cases ha
      · rw [List.mem_singleton.1 ha]
/-- One of several, made and told the thing. -/
theorem early_new {N : Nat} {i : Int} {X : List UInt8} (hz : X ≠ zeroId) : Early N i X (settleS (remS (newS N i 5) X)) ∧ settleA (remS (newS N i 5) X) = [] := by
  have e : remS (newS N i 5) X = { newS N i 5 with known := [X] } := by
    unfold remS
    rw [if_pos ⟨hz, rfl, by show (0 : Nat) < 32; omega⟩]
    rfl
  rw [e, (settle_done (s := { newS N i 5 with known := [X] }) rfl).1, (settle_done (s := { newS N i 5 with known := [X] }) rfl).2]
  exact ⟨⟨rfl, rfl, rfl, rfl, rfl, rfl, rfl, rfl, fun _ _ _ => rfl⟩, rfl⟩
end Go.Proofs.Ytbgojlcciealiaa
namespace Go.Proofs.Ytbgojlcciealiaa
open Go Go.RowKit Go.Maps

/-- The first k have begun, and no mail has come. -/
structure Dawn (N p : Nat) (X : List UInt8) (st : Nat → RdS) (ms : List MailS) (ds : List (List UInt8)) (k : Nat) : Prop where
  len : ds.length = N
  good : ∀ i, i < N → GoodS (st i)
  each : ∀ i, i < k → LvQ N (i : Int) X (st i)
  rest : ∀ i, i < k → Rest N X (st i)
  early : ∀ i, k ≤ i → i < N → Early N (i : Int) X (st i)
  alone : ∀ i j, i < N → j < N → i ≠ j → ∀ c : Int, (st j).votes 0 c (i : Int) = none
  sent : ∀ i j, i < k → j < N → i ≠ j → ∀ c : Int, (c = 0 ∨ c = 1) → (st i).votes 0 c (i : Int) = some X → (⟨(i : Int), (j : Int), ⟨2, 0, c, 0, X⟩⟩ : MailS) ∈ ms
  offer : p < k → ((st p).offers 0).there = true ∧ ∀ j, j < N → j ≠ p → (⟨(p : Int), (j : Int), ⟨1, 0, 0, 0, X⟩⟩ : MailS) ∈ ms
  mail : ∀ m ∈ ms, ∃ i j : Nat, i < N ∧ j < N ∧ i ≠ j ∧ ((∃ c : Int, (c = 0 ∨ c = 1) ∧ m = ⟨(i : Int), (j : Int), ⟨2, 0, c, 0, X⟩⟩ ∧ (st i).votes 0 c (i : Int) = some X) ∨ m = ⟨(i : Int), (j : Int), ⟨1, 0, 0, 0, X⟩⟩)
  done : ∀ j, j < k → (st j).step = 3 → ds[j]? = some X
theorem cntS_app (g l : List ActS) : cntS (g ++ l) = cntS g + cntS l := List.countP_append
/-- When all have begun. -/
theorem Dawn.play {N p : Nat} {X : List UInt8} {st : Nat → RdS} {ms : List MailS} {ds : List (List UInt8)} (hp : p < N) (h : Dawn N p X st ms ds N) : Play N p X st ms ds :=
  ⟨h.len, h.good, h.each, h.rest, fun i j hi hj c hv => (by
    by_cases e : i = j
    · subst e
      exact hv
    · rw [h.alone i j hi hj e c] at hv
      cases hv), fun i j hi hj hij c hc hv => .inr (h.sent i j hi hj hij c hc hv), fun j hj => (by
    obtain ⟨h1, h2⟩ := h.offer hp
    by_cases e : j = p
    · rw [e]
      exact .inl h1
    · exact .inr (h2 j hj e)), h.mail, h.done⟩
set_option maxHeartbeats 1000000 in
/-- The next one begins. -/
theorem Dawn.begins {N p : Nat} {X id : List UInt8} {st : Nat → RdS} {ms : List MailS} {ds : List (List UInt8)} {k : Nat} (hN : 0 ≤ faults (N : Int)) (hz : X ≠ zeroId) (hnl : X ≠ nilId) (hp : proposer (N : Int) 5 0 = (p : Int)) (hid : IdOk id) (hidz : id ≠ zeroId) (hk : k < N) (hX : k = p → id = X) (h : Dawn N p X st ms ds k)
    (hlen : ms.length + 7 * frs N st + 7 ≤ 2000) :
    Dawn N p X (updP st k (settleS (begS (st k) id))) ((begA (st k) id ++ settleA (begS (st k) id)).foldl (takeM1 N k) ms) ((begA (st k) id ++ settleA (begS (st k) id)).foldl (takeD1 k) ds) (k + 1) ∧
    ((begA (st k) id ++ settleA (begS (st k) id)).foldl (takeM1 N k) ms).length + 7 * frs N (updP st k (settleS (begS (st k) id))) ≤ ms.length + 7 * frs N st + 7 := by
  have hE := h.early k (Nat.le_refl _) hk
  obtain ⟨b1, b2, b3, b4, b5, b6⟩ := hE.begun hid hidz (h.good k hk) (fun e => hX (by omega))
  have A := b2.after hN hz hnl b1
  obtain ⟨s1, e1⟩ : ∃ s1, begS (st k) id = s1 := ⟨_, rfl⟩
  rw [e1] at A b3 b4 b5 ⊢
  obtain ⟨s2, e2⟩ : ∃ s2, settleS s1 = s2 := ⟨_, rfl⟩
  obtain ⟨g, eg⟩ : ∃ g, settleA s1 = g := ⟨_, rfl⟩
  obtain ⟨g0, eg0⟩ : ∃ g0, begA (st k) id = g0 := ⟨_, rfl⟩
  rw [e2, eg] at A ⊢
  rw [eg0] at b5 b6 ⊢
  have hfr := frs_upd st k s2 N hk
  have hfw := A.few
  rw [b3] at hfw
  have hg0 : ∀ a ∈ g0, a.kind = 3 ∨ (k = p ∧ a = ⟨1, 0, 0, 0, X⟩) := fun a ha => by
    by_cases e : k = p
    · have := (b5 (by omega)).2
      rw [this] at ha
      exact .inr ⟨e, List.mem_singleton.1 ha⟩
    · exact .inl (b6 (by omega) a ha)
  have hc0 : cntS g0 ≤ 1 := by
    by_cases e : k = p
    · have := (b5 (by omega)).2
      rw [this]
      exact Nat.le_of_eq rfl
    · have : cntS g0 = 0 := by
        unfold cntS
        rw [List.countP_eq_zero]
        intro a ha
        rw [decide_eq_true_eq, b6 (by omega) a ha]
        omega
      omega
  have hc := cntS_le (g := g) (fun a ha e => by
    rcases A.acts a ha with q | ⟨c, _, q, _⟩ | q
    · omega
    · rw [q] at e; cases e
    · rw [q] at e; cases e)
  have hN7 : N ≤ 7 := by
    have := faults_cases hN
    omega
  have hmul : N * cntS (g0 ++ g) ≤ 7 * (1 + cnt2 g) := Nat.mul_le_mul hN7 (by rw [cntS_app]; omega)
  obtain ⟨M1, M2, M3, M4⟩ := takeM_all N k (g0 ++ g) ms (by omega)
  obtain ⟨D1, D2, D3, D4⟩ := takeD_all k X (g0 ++ g) ds (by rw [h.len]; exact hk) (fun a ha e => by
    rcases List.mem_append.1 ha with ha | ha
    · rcases hg0 a ha with q | ⟨_, q⟩
      · omega
      · rw [q] at e; cases e
    · rcases A.acts a ha with q | ⟨c, _, q, _⟩ | q
      · omega
      · rw [q] at e; cases e
      · rw [q])
  refine ⟨⟨D1.trans h.len, fun i hi => ?_, fun i hi => ?_, fun i hi => ?_, fun i hi hiN => ?_, fun a b ha hb hab c => ?_, fun a b ha hb hab c hc01 hv => ?_, fun hpk => ?_, fun m hm => ?_, fun i hi h3 => ?_⟩, by omega⟩
  · by_cases e : i = k
    · rw [e, updP_at]
      exact A.good
    · rw [updP_ne st s2 e]
      exact h.good i hi
  · by_cases e : i = k
    · rw [e, updP_at]
      exact A.one
    · rw [updP_ne st s2 e]
      exact h.each i (by omega)
  · by_cases e : i = k
    · rw [e, updP_at]
      exact A.rest
    · rw [updP_ne st s2 e]
      exact h.rest i (by omega)
  · rw [updP_ne st s2 (by omega)]
    exact h.early i (by omega) hiN
  · by_cases e : b = k
    · rw [e, updP_at, A.oth 0 c (a : Int) (by omega), b3]
      exact hE.votes _ _ _
    · rw [updP_ne st s2 e]
      exact h.alone a b ha hb hab c
  · by_cases e : a = k
    · subst e
      rw [updP_at] at hv
      rcases A.mine c hv with q | q
      · rw [b3, hE.votes] at q
        cases q
      · exact M3 _ (List.mem_append_right _ q) (.inr rfl) b hb (fun q => hab q.symm)
    · rw [updP_ne st s2 e] at hv
      exact M2 _ (h.sent a b (by omega) hb hab c hc01 hv)
  · by_cases e : p = k
    · subst e
      obtain ⟨q1, q2⟩ := b5 hp
      rw [updP_at, A.offs]
      refine ⟨q1, fun j hj hjp => M3 _ (List.mem_append_left _ ?_) (.inl rfl) j hj hjp⟩
      rw [q2]
      exact List.mem_singleton.2 rfl
    · obtain ⟨q1, q2⟩ := h.offer (by omega)
      rw [updP_ne st s2 e]
      exact ⟨q1, fun j hj hjp => M2 _ (q2 j hj hjp)⟩
  · rcases M4 m hm with hm | ⟨a, q, ha, hka, hq, hqk, em⟩
    · obtain ⟨a, b, ha, hb, hab, q⟩ := h.mail m hm
      refine ⟨a, b, ha, hb, hab, ?_⟩
      rcases q with ⟨c, q1, q2, q3⟩ | q
      · refine .inl ⟨c, q1, q2, ?_⟩
        by_cases e : a = k
        · rw [e, hE.votes] at q3
          cases q3
        · rw [updP_ne st s2 e]
          exact q3
      · exact .inr q
    · refine ⟨k, q, hk, hq, fun e => hqk e.symm, ?_⟩
      rcases List.mem_append.1 ha with ha | ha
      · rcases hg0 a ha with r | ⟨_, r⟩
        · omega
        · exact .inr (by rw [em, r])
      · rcases A.acts a ha with r | ⟨c, r1, r2, r3⟩ | r
        · omega
        · refine .inl ⟨c, r1, by rw [em, r2], ?_⟩
          rw [updP_at]
          exact r3
        · rw [r] at hka
          rcases hka with e | e <;> cases e
  · by_cases e : i = k
    · rw [e] at h3 ⊢
      rw [updP_at] at h3
      rcases A.over h3 with q | q
      · rw [b4] at q
        cases q
      · exact D4 ⟨_, List.mem_append_right _ q, rfl⟩
    · rw [updP_ne st s2 e] at h3
      rw [D2 i e]
      exact h.done i (by omega) h3
end Go.Proofs.Ytbgojlcciealiaa
