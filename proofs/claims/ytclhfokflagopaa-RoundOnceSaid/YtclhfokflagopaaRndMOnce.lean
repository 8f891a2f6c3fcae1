/-
  One's way to agreement, as plain mathematics: nobody votes twice in a round in one way, proposes twice, sets a timer twice, or is done twice. Nothing here speaks of the program. No condition.
-/
import Derived.Test.YtclhfokflagopaaRndMLocks
namespace Go.Proofs.Ytclhfokflagopaa
open Go Go.RowKit Go.Maps

/-- The book of RoundOnce. -/
structure OnG where
  c : Vt
  seen : Int → Int → Int → Bool
  known : List UInt8 → Bool
  done : Bool
def keyR (a : ActS) : Int := if a.kind = 4 then 0 else a.round
def keyN (a : ActS) : Int := if a.kind = 4 then 0 else a.num
def upO (N : Nat) (me : Int) (g : OnG) (a : ActS) : OnG :=
  ⟨if a.kind = 2 then putT N g.c a.round a.num me a.id else g.c, fun x y z => g.seen x y z || (decide (x = a.kind) && decide (y = keyR a) && decide (z = keyN a)), g.known, g.done || decide (a.kind = 4)⟩
def okO (N : Nat) (g : OnG) (a : ActS) : Prop :=
  g.seen a.kind (keyR a) (keyN a) = false ∧ g.done = false ∧ (a.kind = 4 → sureO N g.c a.round 1 = some a.id ∧ a.id ≠ nilId ∧ g.known a.id = true ∧ 0 ≤ a.round ∧ a.round < 12)
structure OnI (N : Nat) (me : Int) (s : RdS) (g : OnG) : Prop where
  voters : s.voters = N
  me : s.me = me
  c : g.c = s.votes
  sends : ∀ r n, g.seen 1 r n = true → 0 ≤ r ∧ r < 12 ∧ (s.offers r.toNat).there = true
  votes : ∀ r k, g.seen 2 r k = true → (s.votes r k s.me).isSome = true
  timers : ∀ r t, g.seen 3 r t = true → 0 ≤ r ∧ 0 ≤ t ∧ s.timers r.toNat t.toNat = true
  dones : ∀ r n, g.seen 4 r n = true → g.done = true
  over : g.done = true → s.step = 3 ∧ 0 ≤ s.round
  known : ∀ x, hasI s.known x = true → g.known x = true
theorem OnI.open {N : Nat} {me : Int} {s : RdS} {g : OnG} (h : OnI N me s g) (hs : s.step ≠ 3 ∨ s.round < 0) : g.done = false := by
  cases hd : g.done with
  | false => rfl
  | true =>
    obtain ⟨h1, h2⟩ := h.over hd
    rcases hs with hs | hs
    · exact absurd h1 hs
    · omega
theorem putT_some {n : Int} {V : Vt} {r k q : Int} {id : List UInt8} {r' k' q' : Int} (h : (V r' k' q').isSome = true) : (putT n V r k q id r' k' q').isSome = true := by
  unfold putT
  split
  · unfold putC
    split
    · rfl
    · exact h
  · exact h
/-- A single act. -/
theorem one_on {N : Nat} {me : Int} {g : OnG} {a : ActS} (h : okO N g a) : Acts (upO N me) (okO N) g [a] := ⟨h, trivial⟩
/-- A timer that wasn't set. -/
theorem timer_on {N : Nat} {me : Int} {s : RdS} {g : OnG} (h : OnI N me s g) (hd : g.done = false) (k t : Nat) : Acts (upO N me) (okO N) g (timerA s k t) ∧ OnI N me (timerS s k t) ((timerA s k t).foldl (upO N me) g) := by
  unfold timerA timerS
  by_cases ht : s.timers k t = true
  · rw [if_pos ht, if_pos ht]
    exact ⟨trivial, h⟩
  · rw [if_neg ht, if_neg ht]
    refine ⟨one_on ⟨?_, hd, fun e => by cases e⟩, ?_⟩
    · cases hs : g.seen 3 (k : Int) (t : Int) with
      | false => exact hs
      | true =>
        have := (h.timers _ _ hs).2.2
        rw [Int.toNat_natCast, Int.toNat_natCast] at this
        exact absurd this ht
    · refine ⟨h.voters, h.me, h.c, fun r n e => ?_, fun r n e => ?_, fun r n e => ?_, fun r n e => ?_, fun e => ?_, h.known⟩
      · have e2 : g.seen 1 r n = true := by simpa [upO, keyR, keyN] using e
        exact h.sends r n e2
      · have e2 : g.seen 2 r n = true := by simpa [upO, keyR, keyN] using e
        exact h.votes r n e2
      · have e2 : g.seen 3 r n = true ∨ (r = (k : Int) ∧ n = (t : Int)) := by simpa [upO, keyR, keyN] using e
        show 0 ≤ r ∧ 0 ≤ n ∧ (if r.toNat = k ∧ n.toNat = t then true else s.timers r.toNat n.toNat) = true
        rcases e2 with e2 | ⟨rfl, rfl⟩
        · obtain ⟨h1, h2, h3⟩ := h.timers r n e2
          refine ⟨h1, h2, ?_⟩
          split
          · rfl
          · exact h3
        · exact ⟨by omega, by omega, by rw [Int.toNat_natCast, Int.toNat_natCast, if_pos ⟨rfl, rfl⟩]⟩
      · have e2 : g.seen 4 r n = true := by simpa [upO, keyR, keyN] using e
        have := h.dones r n e2
        rw [hd] at this
        cases this
      · have e2 : g.done = true := by simpa [upO] using e
        rw [hd] at e2
        cases e2
theorem OnI.in_ {N : Nat} {me : Int} {s s2 : RdS} {g : OnG} (h : OnI N me s g) (hd : g.done = false) (e1 : s2.voters = s.voters) (e2 : s2.me = s.me) (e3 : s2.votes = s.votes) (e4 : s2.offers = s.offers) (e5 : s2.timers = s.timers) (e6 : s2.known = s.known) : OnI N me s2 g :=
  ⟨e1.trans h.voters, e2.trans h.me, h.c.trans e3.symm, fun r n e => (by rw [e4]; exact h.sends r n e), fun r n e => (by rw [e3, e2]; exact h.votes r n e), fun r n e => (by rw [e5]; exact h.timers r n e), h.dones, fun e => (by rw [hd] at e; cases e), fun x e => (by rw [e6] at e; exact h.known x e)⟩
theorem begin_on {N : Nat} {me : Int} {s : RdS} {g : OnG} (h : OnI N me s g) (hd : g.done = false) (m : Int) : Acts (upO N me) (okO N) g (beginA s m) ∧ OnI N me (beginS s m) ((beginA s m).foldl (upO N me) g) := by
  have hin : OnI N me (inS s m) g := h.in_ hd rfl rfl rfl rfl rfl rfl
  unfold beginA beginS
  by_cases hm : 0 ≤ m ∧ m < 12
  · rw [if_pos hm, if_pos hm]
    by_cases hp : proposer s.voters s.height m ≠ s.me
    · rw [if_pos hp, if_pos hp]
      exact timer_on hin hd _ _
    · rw [if_neg hp, if_neg hp]
      by_cases ht : (s.offers m.toNat).there = true
      · rw [if_pos ht, if_pos ht]
        exact ⟨trivial, hin⟩
      · rw [if_neg ht, if_neg ht]
        by_cases hq : (propS s).there = false
        · rw [if_pos hq, if_pos hq]
          exact timer_on hin hd _ _
        · rw [if_neg hq, if_neg hq]
          refine ⟨one_on ⟨?_, hd, fun e => by cases e⟩, ?_⟩
          · cases hs : g.seen 1 m 0 with
            | false => exact hs
            | true => exact absurd (h.sends _ _ hs).2.2 ht
          · have hpt : (propS s).there = true := by simpa using hq
            refine ⟨h.voters, h.me, h.c, fun r n e => ?_, fun r n e => ?_, fun r n e => ?_, fun r n e => ?_, fun e => ?_, h.known⟩
            · have e2 : g.seen 1 r n = true ∨ (r = m ∧ n = 0) := by simpa [upO, keyR, keyN] using e
              show 0 ≤ r ∧ r < 12 ∧ (if r.toNat = m.toNat then propS s else s.offers r.toNat).there = true
              rcases e2 with e2 | ⟨rfl, rfl⟩
              · obtain ⟨h1, h2, h3⟩ := h.sends r n e2
                refine ⟨h1, h2, ?_⟩
                split
                · exact hpt
                · exact h3
              · exact ⟨hm.1, hm.2, by rw [if_pos rfl]; exact hpt⟩
            · have e2 : g.seen 2 r n = true := by simpa [upO, keyR, keyN] using e
              exact h.votes r n e2
            · have e2 : g.seen 3 r n = true := by simpa [upO, keyR, keyN] using e
              exact h.timers r n e2
            · have e2 : g.seen 4 r n = true := by simpa [upO, keyR, keyN] using e
              exact absurd (h.dones r n e2) (by rw [hd]; simp)
            · have e2 : g.done = true := by simpa [upO] using e
              rw [hd] at e2
              cases e2
  · rw [if_neg hm, if_neg hm]
    exact ⟨trivial, h.in_ hd rfl rfl rfl rfl rfl rfl⟩
theorem cast_on {N : Nat} {me : Int} {s s1 : RdS} {g : OnG} (h : OnI N me s g) (hd : g.done = false) (k : Int) (id : List UInt8) (e1 : s1.voters = s.voters) (e2 : s1.me = s.me) (e3 : s1.votes = s.votes) (e4 : s1.offers = s.offers) (e5 : s1.timers = s.timers) (e6 : s1.known = s.known) :
    Acts (upO N me) (okO N) g (castA s1 k id) ∧ OnI N me (castS s1 k id) ((castA s1 k id).foldl (upO N me) g) := by
  have h1 := h.in_ hd e1 e2 e3 e4 e5 e6
  have hvs : (castS s1 k id).votes = putT s1.voters s1.votes s1.round k s1.me id := rfl
  by_cases hp : putCode s1.voters s1.votes s1.round k s1.me id = 0
  · have ea : castA s1 k id = [⟨2, s1.round, k, 0, id⟩] := by unfold castA; rw [if_pos hp]
    have hnone : s1.votes s1.round k s1.me = none ∧ okPut s1.voters s1.round k s1.me id = true := by
      unfold putCode at hp
      split at hp
      · omega
      split at hp
      · omega
      · rename_i q1 q2
        exact ⟨by simpa using q2, by simpa using q1⟩
    rw [ea]
    refine ⟨one_on ⟨?_, hd, fun e => by cases e⟩, ?_⟩
    · cases hs : g.seen 2 s1.round k with
      | false => exact hs
      | true =>
        have := h1.votes _ _ hs
        rw [hnone.1] at this
        cases this
    · refine ⟨h1.voters, h1.me, ?_, fun r n e => ?_, fun r n e => ?_, fun r n e => ?_, fun r n e => ?_, fun e => ?_, h1.known⟩
      · rw [hvs]
        show (if (2 : Int) = 2 then putT N g.c s1.round k me id else g.c) = _
        rw [if_pos rfl, h1.c, ← h1.voters, ← h1.me]
      · have e2 : g.seen 1 r n = true := by simpa [upO, keyR, keyN] using e
        exact h1.sends r n e2
      · have e2 : g.seen 2 r n = true ∨ (r = s1.round ∧ n = k) := by simpa [upO, keyR, keyN] using e
        rw [hvs]
        rcases e2 with e2 | ⟨rfl, rfl⟩
        · exact putT_some (h1.votes r n e2)
        · unfold putT
          rw [if_pos ⟨hnone.2, by rw [hnone.1]; rfl⟩]
          unfold putC
          rw [if_pos ⟨rfl, rfl, rfl⟩]
          rfl
      · have e2 : g.seen 3 r n = true := by simpa [upO, keyR, keyN] using e
        exact h1.timers r n e2
      · have e2 : g.seen 4 r n = true := by simpa [upO, keyR, keyN] using e
        exact absurd (h1.dones r n e2) (by rw [hd]; simp)
      · have e2 : g.done = true := by simpa [upO] using e
        rw [hd] at e2
        cases e2
  · have ea : castA s1 k id = [] := by unfold castA; rw [if_neg hp]
    rw [ea]
    refine ⟨trivial, h1.voters, h1.me, ?_, h1.sends, fun r n e => ?_, h1.timers, h1.dones, fun e => ?_, h1.known⟩
    · rw [hvs, putT_bad hp]
      exact h1.c
    · rw [hvs]
      exact putT_some (h1.votes r n e)
    · have e2 : g.done = true := e
      rw [hd] at e2
      cases e2
theorem step_on {N : Nat} {me : Int} : ∀ (s : RdS) (l : List ActS) (s' : RdS) (g : OnG), GoodS s → s.step ≠ 3 → Step s l s' → OnI N me s g → Acts (upO N me) (okO N) g l ∧ OnI N me s' (l.foldl (upO N me) g) := by
  intro s l s' g hg hs hst h
  have hd := h.open (.inl hs)
  have hr := early_round hg.ok hs
  cases hst with
  | @done k id h1 h2 =>
    obtain ⟨q1, q2, q3⟩ := sureS_some h2
    refine ⟨one_on ⟨?_, hd, fun _ => ⟨?_, q2, h.known _ q3, by show (0 : Int) ≤ (k : Int); omega, by show (k : Int) < 12; omega⟩⟩, ?_⟩
    · cases hsn : g.seen 4 0 0 with
      | false => exact hsn
      | true => exact absurd (h.dones _ _ hsn) (by rw [hd]; simp)
    · rw [h.c, ← h.voters]
      exact q1
    · refine ⟨h.voters, h.me, h.c, fun r n e => ?_, fun r n e => ?_, fun r n e => ?_, fun r n e => ?_, fun e => ⟨rfl, hr⟩, h.known⟩
      · have e2 : g.seen 1 r n = true := by simpa [upO, keyR, keyN] using e
        exact h.sends r n e2
      · have e2 : g.seen 2 r n = true := by simpa [upO, keyR, keyN] using e
        exact h.votes r n e2
      · have e2 : g.seen 3 r n = true := by simpa [upO, keyR, keyN] using e
        exact h.timers r n e2
      · show (g.done || decide ((4 : Int) = 4)) = true
        simp
  | begins h1 => exact begin_on h hd _
  | early h1 h2 h3 h4 => exact cast_on h hd 0 _ rfl rfl rfl rfl rfl rfl
  | @better id h1 h2 h3 =>
    unfold betterA betterS
    by_cases hs1 : s.step = 1
    · rw [if_pos hs1, if_pos hs1]
      exact cast_on (s := s) (s1 := lockS (bestS s id)) h hd 1 id rfl rfl rfl rfl rfl rfl
    · rw [if_neg hs1, if_neg hs1]
      exact ⟨trivial, h.in_ hd rfl rfl rfl rfl rfl rfl⟩
  | late h1 h2 => exact cast_on h hd 1 _ rfl rfl rfl rfl rfl rfl
  | timer h1 h2 => exact timer_on h hd _ _
/-- What came is written down. -/
def inO (N : Nat) (me : Int) (g : OnG) (i : InS) : OnG := ⟨if i.kind = 3 ∧ i.who ≠ me then putT N g.c i.round i.num i.who i.id else g.c, g.seen, fun x => g.known x || (decide (i.kind = 1) && (x == i.id)), g.done⟩
theorem in_known {N : Nat} {me : Int} {s : RdS} {g : OnG} {i : InS} (h : OnI N me s g) (h3 : i.kind ≠ 3) : OnI N me s (inO N me g i) := by
  have hc : (inO N me g i).c = g.c := if_neg fun e => h3 e.1
  exact ⟨h.voters, h.me, hc.trans h.c, h.sends, h.votes, h.timers, h.dones, h.over, fun x e => by
    show (g.known x || _) = true
    rw [h.known x e]
    rfl⟩
theorem pre_on {N : Nat} {me : Int} {s : RdS} {g : OnG} {i : InS} (_hg : GoodS s) (h : OnI N me s g) (hk : 0 ≤ i.kind ∧ i.kind < 5) : Acts (upO N me) (okO N) (inO N me g i) (preA s i) ∧ OnI N me (preS s i) ((preA s i).foldl (upO N me) (inO N me g i)) := by
  have hc : i.kind = 0 ∨ i.kind = 1 ∨ i.kind = 2 ∨ i.kind = 3 ∨ i.kind = 4 := by omega
  have hdone : (inO N me g i).done = g.done := rfl
  rcases hc with h0 | h1 | h2 | h3 | h4
  · have q1 : preS s i = begS s i.id := by unfold preS; rw [if_pos h0]
    have q2 : preA s i = begA s i.id := by unfold preA; rw [if_pos h0]
    have hi := in_known (i := i) h (by omega)
    rw [q1, q2]
    unfold begS begA
    by_cases hr : 0 ≤ s.round
    · rw [if_pos hr, if_pos hr]
      exact ⟨trivial, hi⟩
    · rw [if_neg hr, if_neg hr]
      have hd := h.open (.inr (by omega))
      refine begin_on ?_ (hdone.trans hd) 0
      split
      · exact hi.in_ (hdone.trans hd) rfl rfl rfl rfl rfl rfl
      · exact hi
  · have q1 : preS s i = remS s i.id := by unfold preS; rw [if_neg (by omega), if_pos h1]
    have q2 : preA s i = [] := by unfold preA; rw [if_neg (by omega), if_neg (by omega)]
    have hi := in_known (i := i) h (by omega)
    rw [q1, q2]
    refine ⟨trivial, ?_⟩
    show OnI N me (remS s i.id) (inO N me g i)
    unfold remS
    split
    · refine ⟨hi.voters, hi.me, hi.c, hi.sends, hi.votes, hi.timers, hi.dones, hi.over, fun x e => ?_⟩
      have e2 : hasI s.known x = true ∨ i.id = x := by
        unfold hasI at e ⊢
        simpa [List.any_append] using e
      rcases e2 with e2 | rfl
      · exact hi.known x e2
      · show (g.known i.id || (decide (i.kind = 1) && (i.id == i.id))) = true
        rw [h1]
        simp
    · exact hi
  · have q1 : preS s i = offrS s i.round i.valid i.id := by unfold preS; rw [if_neg (by omega), if_neg (by omega), if_pos h2]
    have q2 : preA s i = [] := by unfold preA; rw [if_neg (by omega), if_neg (by omega)]
    have hi := in_known (i := i) h (by omega)
    rw [q1, q2]
    refine ⟨trivial, ?_⟩
    show OnI N me (offrS s i.round i.valid i.id) (inO N me g i)
    unfold offrS
    split
    · unfold layS
      split
      · refine ⟨hi.voters, hi.me, hi.c, fun r n e => ?_, hi.votes, hi.timers, hi.dones, hi.over, hi.known⟩
        obtain ⟨a1, a2, a3⟩ := hi.sends r n e
        refine ⟨a1, a2, ?_⟩
        show (if r.toNat = i.round.toNat then (⟨true, i.valid, i.id⟩ : OfferS) else s.offers r.toNat).there = true
        split
        · rfl
        · exact a3
      · exact hi
    · exact hi
  · have q1 : preS s i = votS s i.round i.num i.who i.id := by unfold preS; rw [if_neg (by omega), if_neg (by omega), if_neg (by omega), if_pos h3]
    have q2 : preA s i = [] := by unfold preA; rw [if_neg (by omega), if_neg (by omega)]
    rw [q1, q2]
    refine ⟨trivial, ?_⟩
    show OnI N me (votS s i.round i.num i.who i.id) (inO N me g i)
    have hkn : ∀ x, hasI s.known x = true → (inO N me g i).known x = true := fun x e => by
      show (g.known x || _) = true
      rw [h.known x e]
      rfl
    unfold votS
    by_cases hw : i.who = s.me
    · have e1 : (inO N me g i).c = g.c := if_neg fun e => e.2 (hw.trans h.me)
      rw [if_neg (fun e => e hw)]
      exact ⟨h.voters, h.me, e1.trans h.c, h.sends, h.votes, h.timers, h.dones, h.over, hkn⟩
    · have e1 : (inO N me g i).c = putT N g.c i.round i.num i.who i.id := if_pos ⟨h3, fun e => hw (e.trans h.me.symm)⟩
      rw [if_pos hw]
      exact ⟨h.voters, h.me, by rw [e1, h.c, ← h.voters], h.sends, fun r n e => putT_some (h.votes r n e), h.timers, h.dones, h.over, hkn⟩
  · have q1 : preS s i = timeS s i.round i.num := by unfold preS; rw [if_neg (by omega), if_neg (by omega), if_neg (by omega), if_neg (by omega)]
    have q2 : preA s i = timeA s i.round i.num := by unfold preA; rw [if_neg (by omega), if_pos h4]
    have hi := in_known (i := i) h (by omega)
    rw [q1, q2]
    by_cases hh : i.round = s.round ∧ s.step ≠ 3
    · have hd := hdone.trans (h.open (.inl hh.2))
      unfold timeS timeA
      rw [if_pos hh, if_pos hh]
      by_cases hq : i.num = 0 ∧ s.step = 0
      · rw [if_pos hq, if_pos hq]
        exact cast_on hi hd 0 nilId rfl rfl rfl rfl rfl rfl
      · rw [if_neg hq, if_neg hq]
        by_cases hq1 : i.num = 1 ∧ s.step = 1
        · rw [if_pos hq1, if_pos hq1]
          exact cast_on hi hd 1 nilId rfl rfl rfl rfl rfl rfl
        · rw [if_neg hq1, if_neg hq1]
          by_cases hq2 : i.num = 2
          · rw [if_pos hq2, if_pos hq2]
            exact begin_on hi hd _
          · rw [if_neg hq2, if_neg hq2]
            exact ⟨trivial, hi⟩
    · unfold timeS timeA
      rw [if_neg hh, if_neg hh]
      exact ⟨trivial, hi⟩
theorem give_on {N : Nat} {me : Int} {s : RdS} {g : OnG} {i : InS} (hg : GoodS s) (hid : IdOk i.id) (h : OnI N me s g) (h6 : i.kind ≠ 6) (h7 : i.kind ≠ 7) : Acts (upO N me) (okO N) (inO N me g i) (giveA s i) ∧ OnI N me (giveS s i) ((giveA s i).foldl (upO N me) (inO N me g i)) := by
  unfold giveA giveS
  by_cases hk : 0 ≤ i.kind ∧ i.kind < 5
  · rw [if_pos hk, if_pos hk]
    obtain ⟨a1, i1⟩ := pre_on hg h hk
    obtain ⟨_, a2, i2⟩ := settle_keeps (OnI N me) step_on (pre_goodS hg i hid) i1
    rw [List.foldl_append]
    exact ⟨acts_append a1 a2, i2⟩
  · rw [if_neg hk, if_neg hk]
    have hi := in_known (i := i) h (by omega)
    refine ⟨trivial, ?_⟩
    by_cases h5 : i.kind = 5
    · rw [if_pos h5]
      exact ⟨hi.voters, hi.me, hi.c, hi.sends, hi.votes, hi.timers, hi.dones, hi.over, hi.known⟩
    · rw [if_neg h5, if_neg h7, if_neg h6]
      exact hi
theorem new_on (v : Nat) (me hh : Int) : OnI v me (newS v me hh) ⟨noVotes, fun _ _ _ => false, fun _ => false, false⟩ :=
  ⟨rfl, rfl, rfl, fun _ _ e => (by cases e), fun _ _ e => (by cases e), fun _ _ e => (by cases e), fun _ _ e => (by cases e), fun e => (by cases e), fun _ e => (by cases e)⟩
end Go.Proofs.Ytclhfokflagopaa
