/-
  Several ways to agreement, as plain mathematics: no two are done with unlike things. Nothing here speaks of the program. No condition.
-/
import Derived.Test.YtclhfokflagopaaRndMRec
namespace Go.Proofs.Ytclhfokflagopaa
open Go Go.RowKit Go.Maps

theorem countP_both {α : Type} (p q : α → Bool) : ∀ l : List α, l.countP p + l.countP q ≤ l.length + l.countP (fun x => p x && q x)
  | [] => by simp
  | a :: l => by
    have ih := countP_both p q l
    rw [List.countP_cons, List.countP_cons, List.countP_cons, List.length_cons]
    cases p a <;> cases q a <;> simp <;> omega
theorem countP_high {P : Nat → Bool} {H : Nat} (h : ∀ q, q < H → P q = false) : ∀ m, (List.range m).countP P ≤ m - H
  | 0 => by simp
  | m + 1 => by
    have ih := countP_high h m
    rw [List.range_succ, List.countP_append, List.countP_cons, List.countP_nil]
    by_cases hm : m < H
    · rw [h m hm]
      simp
      omega
    · have : (if P m = true then 1 else 0) ≤ 1 := by split <;> omega
      omega
/-- Two lots of as many as are needed have one in common who isn't faulty. -/
theorem quorum {n H : Nat} (hn : 0 ≤ faults n) (hH : (H : Int) = n - faults n) {V V' : Vt} {r k r' k' : Int} {x y : List UInt8} (hx : sureO n V r k = some x) (hy : sureO n V' r' k' = some y) : ∃ q : Nat, q < H ∧ V r k (q : Int) = some x ∧ V' r' k' (q : Int) = some y := by
  rw [sureO_iff hn] at hx hy
  refine Classical.byContradiction fun hno => ?_
  have hb := countP_both (fun s : Nat => V r k (s : Int) == some x) (fun s : Nat => V' r' k' (s : Int) == some y) (List.range n)
  have hh := countP_high (P := fun s : Nat => (V r k (s : Int) == some x) && (V' r' k' (s : Int) == some y)) (H := H) (fun q hq => by
    cases h1 : (V r k (q : Int) == some x) with
    | false => rfl
    | true =>
      cases h2 : (V' r' k' (q : Int) == some y) with
      | false => rfl
      | true => exact absurd ⟨q, hq, by simpa using h1, by simpa using h2⟩ hno) n
  rw [List.length_range] at hb
  have e1 : (List.range n).countP (fun s : Nat => V r k (s : Int) == some x) = forN n V r k x := rfl
  have e2 : (List.range n).countP (fun s : Nat => V' r' k' (s : Int) == some y) = forN n V' r' k' y := rfl
  rw [e1, e2] at hb
  have hf : (n : Int) = 1 ∧ faults n = 0 ∨ (n : Int) = 4 ∧ faults n = 1 ∨ (n : Int) = 7 ∧ faults n = 2 := by
    unfold faults at hn ⊢
    split
    · exact .inl ⟨by assumption, rfl⟩
    split
    · exact .inr (.inl ⟨by assumption, rfl⟩)
    split
    · exact .inr (.inr ⟨by assumption, rfl⟩)
    · rename_i h1 h2 h3
      rw [if_neg h1, if_neg h2, if_neg h3] at hn
      omega
  have hneed : need n = 2 * faults n + 1 := by unfold need; omega
  omega
/-- What one of those who aren't faulty holds to, and what was done since votes V0. -/
structure AgB (N : Nat) (me : Int) (V0 : Vt) (s : RdS) (g : List ActS) : Prop where
  voters : s.voters = N
  meq : s.me = me
  own : OwnV s
  pos : ∀ r k x, s.votes r k me = some x → 0 ≤ r
  oth : ∀ r k q, q ≠ me → s.votes r k q = V0 r k q
  grow : ∀ r k x, V0 r k me = some x → s.votes r k me = some x
  late : ∀ r x, s.votes r 1 me = some x → x ≠ nilId → sureO N s.votes r 0 = some x
  held : ∀ r x, s.votes r 1 me = some x → x ≠ nilId → r + 1 ≤ s.lockR
  lockv : 0 < s.lockR → s.votes (s.lockR - 1) 1 me = some s.lock ∧ s.lock ≠ nilId
  early : ∀ r x r' y, s.votes r 1 me = some x → x ≠ nilId → s.votes r' 0 me = some y → y ≠ nilId → r < r' → x = y ∨ ∃ k, r ≤ k ∧ k < r' ∧ sureO N s.votes k 0 = some y
  acts : ∀ a ∈ g, (a.kind = 2 → s.votes a.round a.num me = some a.id) ∧ (a.kind = 4 → sureO N s.votes a.round 1 = some a.id ∧ a.id ≠ nilId)
def upG (g : List ActS) (a : ActS) : List ActS := g ++ [a]
theorem foldl_upG : ∀ (l g : List ActS), l.foldl upG g = g ++ l
  | [], g => by simp
  | a :: l, g => by
    rw [List.foldl_cons, foldl_upG l]
    unfold upG
    rw [List.append_assoc]
    rfl
theorem AgB.same {N : Nat} {me : Int} {V0 : Vt} {s s2 : RdS} {g l : List ActS} (h : AgB N me V0 s g) (e1 : s2.voters = s.voters) (e2 : s2.me = s.me) (e3 : s2.votes = s.votes) (e4 : s2.lockR = s.lockR) (e5 : s2.lock = s.lock) (ho : OwnV s2)
    (hl : ∀ a ∈ l, (a.kind = 2 → s.votes a.round a.num me = some a.id) ∧ (a.kind = 4 → sureO N s.votes a.round 1 = some a.id ∧ a.id ≠ nilId)) : AgB N me V0 s2 (g ++ l) := by
  refine ⟨e1.trans h.voters, e2.trans h.meq, ho, by rw [e3]; exact h.pos, by rw [e3]; exact h.oth, by rw [e3]; exact h.grow, by rw [e3]; exact h.late, by rw [e3, e4]; exact h.held, by rw [e3, e4, e5]; exact h.lockv, by rw [e3]; exact h.early, fun a ha => ?_⟩
  rw [e3]
  rcases List.mem_append.1 ha with ha | ha
  · exact h.acts a ha
  · exact hl a ha
theorem no_acts {N : Nat} {me : Int} {V : Vt} {l : List ActS} (h : ∀ a ∈ l, a.kind ≠ 2 ∧ a.kind ≠ 4) : ∀ a ∈ l, (a.kind = 2 → V a.round a.num me = some a.id) ∧ (a.kind = 4 → sureO N V a.round 1 = some a.id ∧ a.id ≠ nilId) :=
  fun a ha => ⟨fun e => absurd e (h a ha).1, fun e => absurd e (h a ha).2⟩
/-- A vote that is cast. -/
theorem cast_ag {N : Nat} (hN : 0 ≤ faults N) {me : Int} {V0 : Vt} {s s1 : RdS} {g : List ActS} (h : AgB N me V0 s g) (k : Int) (id : List UInt8)
    (e1 : s1.voters = s.voters) (e2 : s1.me = s.me) (e3 : s1.votes = s.votes) (e4 : s1.round = s.round)
    (hlk1 : k = 1 → id ≠ nilId → putCode s.voters s.votes s.round k s.me id = 0 ∧ sureO N s.votes s.round 0 = some id ∧ s1.lockR = s.round + 1 ∧ s1.lock = id)
    (hlk0 : ¬ (k = 1 ∧ id ≠ nilId) → s1.lockR = s.lockR ∧ s1.lock = s.lock)
    (hfree : k = 0 → id ≠ nilId → s.lockR = 0 ∨ s.lock = id ∨ ∃ j : Int, s.lockR - 1 ≤ j ∧ 0 ≤ j ∧ j < s.round ∧ sureO s.voters s.votes j 0 = some id)
    (hr : 0 ≤ s.round)
    (hstep : s.step = 0 ∧ k = 0 ∨ (s.step = 1 ∧ k = 1)) : AgB N me V0 (castS s1 k id) (g ++ castA s1 k id) := by
  have hown' := own_cast h.own k id e1 e2 e3 e4 (hstep.elim (fun e => .inl e.1) .inr)
  have hvs : (castS s1 k id).votes = putT s.voters s.votes s.round k s.me id := by
    show putT s1.voters s1.votes s1.round k s1.me id = _
    rw [e1, e2, e3, e4]
  by_cases hp : putCode s.voters s.votes s.round k s.me id = 0
  · have ea : castA s1 k id = [⟨2, s.round, k, 0, id⟩] := by
      unfold castA
      rw [e1, e2, e3, e4, if_pos hp]
    rw [ea]
    obtain ⟨hz, hnone, _⟩ := putCode_zero hp
    obtain ⟨V', hV'⟩ : ∃ V', putT s.voters s.votes s.round k s.me id = V' := ⟨_, rfl⟩
    have hnew : V' s.round k me = some id := by rw [← hV', ← h.meq]; exact putT_new hp
    have hkeep : ∀ r j q x, s.votes r j q = some x → V' r j q = some x := fun r j q x hx => by rw [← hV']; exact putT_keeps hx
    have hfar : ∀ r j q, ¬ (r = s.round ∧ j = k ∧ q = me) → V' r j q = s.votes r j q := fun r j q hn => by rw [← hV', h.meq]; exact putT_far hn
    have hst : ∀ r j x, sureO N s.votes r j = some x → sureO N V' r j = some x := fun r j x hx => sureO_stays hN (fun q _ hq => hkeep r j q x hq) hx
    rw [hV'] at hvs
    have hlockR : 0 < s.lockR → s.lockR - 1 ≤ s.round := fun hp' => by
      have := (h.lockv hp').1
      refine Classical.byContradiction fun hlt => ?_
      have h2 := h.own.later (s.lockR - 1) 1 (by omega)
      rw [h.meq] at h2
      rw [h2] at this
      cases this
    refine ⟨e1.trans h.voters, e2.trans h.meq, hown', fun r j x hx => ?_, fun r j q hq => ?_, fun r j x hx => ?_, fun r x hx hne => ?_, fun r x hx hne => ?_, fun hpl => ?_, fun r x r' y hx hxn hy hyn hlt => ?_, fun a ha => ?_⟩
    · rw [hvs] at hx
      by_cases hh : r = s.round ∧ j = k
      · omega
      · rw [hfar r j me (fun e => hh ⟨e.1, e.2.1⟩)] at hx
        exact h.pos r j x hx
    · rw [hvs, hfar r j q (fun e => hq e.2.2)]
      exact h.oth r j q hq
    · rw [hvs]
      exact hkeep _ _ _ _ (h.grow r j x hx)
    · rw [hvs] at hx ⊢
      by_cases hh : r = s.round ∧ (1 : Int) = k
      · obtain ⟨rfl, rfl⟩ := hh
        rw [hnew] at hx
        obtain rfl := Option.some.inj hx
        exact hst _ _ _ (hlk1 rfl hne).2.1
      · rw [hfar r 1 me (fun e => hh ⟨e.1, e.2.1⟩)] at hx
        exact hst _ _ _ (h.late r x hx hne)
    · rw [hvs] at hx
      show r + 1 ≤ s1.lockR
      by_cases hh : r = s.round ∧ (1 : Int) = k
      · obtain ⟨rfl, rfl⟩ := hh
        rw [hnew] at hx
        obtain rfl := Option.some.inj hx
        rw [(hlk1 rfl hne).2.2.1]
        exact Int.le_refl _
      · rw [hfar r 1 me (fun e => hh ⟨e.1, e.2.1⟩)] at hx
        have h1 := h.held r x hx hne
        by_cases hk : k = 1 ∧ id ≠ nilId
        · rw [(hlk1 hk.1 hk.2).2.2.1]
          by_cases hpl : 0 < s.lockR
          · have := hlockR hpl
            omega
          · have h2 : ¬ s.round < r := fun hlt => by
              have := h.own.later r 1 hlt
              rw [h.meq] at this
              rw [this] at hx
              cases hx
            omega
        · rw [(hlk0 hk).1]
          exact h1
    · rw [hvs]
      show V' (s1.lockR - 1) 1 me = some s1.lock ∧ s1.lock ≠ nilId
      have hpl' : 0 < s1.lockR := hpl
      by_cases hk : k = 1 ∧ id ≠ nilId
      · obtain ⟨_, _, l1, l2⟩ := hlk1 hk.1 hk.2
        rw [l1, l2, Int.add_sub_cancel]
        rw [hk.1] at hnew
        exact ⟨hnew, hk.2⟩
      · obtain ⟨l1, l2⟩ := hlk0 hk
        rw [l1] at hpl' ⊢
        rw [l2]
        exact ⟨hkeep _ _ _ _ (h.lockv hpl').1, (h.lockv hpl').2⟩
    · rw [hvs] at hx hy ⊢
      by_cases hh : r' = s.round ∧ (0 : Int) = k
      · obtain ⟨rfl, rfl⟩ := hh
        rw [hnew] at hy
        obtain rfl := Option.some.inj hy
        rw [hfar r 1 me (fun e => by omega)] at hx
        have h1 := h.held r x hx hxn
        have h0 : s.step = 0 := by omega
        have hr0 := h.pos r 1 x hx
        have hrp : 0 < s.lockR := by omega
        obtain ⟨v1, v2⟩ := h.lockv hrp
        have hlr : s.lockR - 1 ≠ s.round := fun e => by
          rw [e] at v1
          have := (h.own.step0 h0).2
          rw [h.meq, v1] at this
          cases this
        have hlr2 := hlockR hrp
        rcases hfree rfl hyn with q | q | ⟨j, q1, q2, q3, q4⟩
        · omega
        · by_cases hre : r = s.lockR - 1
          · left
            rw [hre, v1] at hx
            exact (Option.some.inj hx).symm.trans q
          · right
            refine ⟨s.lockR - 1, by omega, by omega, hst _ _ _ ?_⟩
            rw [← q]
            exact h.late _ _ v1 v2
        · right
          refine ⟨j, by omega, q3, hst _ _ _ ?_⟩
          rw [← h.voters]
          exact q4
      · rw [hfar r' 0 me (fun e => hh ⟨e.1, e.2.1⟩)] at hy
        by_cases hg : r = s.round ∧ (1 : Int) = k
        · have := h.own.later r' 0 (by omega)
          rw [h.meq, hy] at this
          cases this
        · rw [hfar r 1 me (fun e => hg ⟨e.1, e.2.1⟩)] at hx
          rcases h.early r x r' y hx hxn hy hyn hlt with q | ⟨j, q1, q2, q3⟩
          · exact .inl q
          · exact .inr ⟨j, q1, q2, hst _ _ _ q3⟩
    · rw [hvs]
      rcases List.mem_append.1 ha with ha | ha
      · exact ⟨fun e => hkeep _ _ _ _ ((h.acts a ha).1 e), fun e => ⟨hst _ _ _ ((h.acts a ha).2 e).1, ((h.acts a ha).2 e).2⟩⟩
      · rw [List.mem_singleton] at ha
        subst ha
        exact ⟨fun _ => hnew, fun e => (by cases e)⟩
  · have ea : castA s1 k id = [] := by
      unfold castA
      rw [e1, e2, e3, e4, if_neg hp]
    rw [ea]
    obtain ⟨l1, l2⟩ := hlk0 (fun e => hp (hlk1 e.1 e.2).1)
    exact h.same e1 e2 (hvs.trans (putT_bad hp)) l1 l2 hown' (fun a ha => by cases ha)
theorem begin_ag {N : Nat} {me : Int} {V0 : Vt} {s : RdS} {g : List ActS} (h : AgB N me V0 s g) {m : Int} (hm : s.round < m) : AgB N me V0 (beginS s m) (g ++ beginA s m) := by
  obtain ⟨b1, b2, b3, b4, b5⟩ := begin_votes s m
  exact h.same b2 b3 b1 b4 b5 (own_begin h.own hm) (no_acts fun a ha => by rcases beginA_kind ha with h | h <;> omega)
theorem timer_ag {N : Nat} {me : Int} {V0 : Vt} {s : RdS} {g : List ActS} (h : AgB N me V0 s g) (k t : Nat) : AgB N me V0 (timerS s k t) (g ++ timerA s k t) := by
  have hn : ∀ a ∈ timerA s k t, a.kind ≠ 2 ∧ a.kind ≠ 4 := fun a ha => by
    rw [(timerA_kind ha).1]
    exact ⟨by show (3 : Int) ≠ 2; decide, by show (3 : Int) ≠ 4; decide⟩
  unfold timerS
  split
  · exact h.same rfl rfl rfl rfl rfl h.own (no_acts hn)
  · exact h.same rfl rfl rfl rfl rfl ⟨h.own.later, h.own.step0, h.own.step1⟩ (no_acts hn)
theorem step_ag {N : Nat} (hN : 0 ≤ faults N) {me : Int} {V0 : Vt} : ∀ (s : RdS) (l : List ActS) (s' : RdS) (g : List ActS), GoodS s → s.step ≠ 3 → Step s l s' → AgB N me V0 s g → Acts upG (fun _ _ => True) g l ∧ AgB N me V0 s' (l.foldl upG g) := by
  intro s l s' g hg hs hst h
  refine ⟨acts_any l g, ?_⟩
  rw [foldl_upG]
  have hr := early_round hg.ok hs
  cases hst with
  | @done k id h1 h2 =>
    obtain ⟨q1, q2, _⟩ := sureS_some h2
    refine h.same rfl rfl rfl rfl rfl ⟨h.own.later, fun e => (by cases e), fun e => (by cases e)⟩ fun a ha => ?_
    rw [List.mem_singleton] at ha
    subst ha
    exact ⟨fun e => (by cases e), fun _ => ⟨by rw [← h.voters]; exact q1, q2⟩⟩
  | begins h1 => exact begin_ag h h1
  | @early id h1 h2 h3 h4 =>
    refine cast_ag hN h 0 id rfl rfl rfl rfl (fun e => by omega) (fun _ => ⟨rfl, rfl⟩) (fun _ hne => ?_) hr (.inl ⟨h3, rfl⟩)
    rcases h4 with h4 | h4
    · exact absurd h4 hne
    · exact choice_free hg.ok hr h4 hne
  | @better id h1 h2 h3 =>
    obtain ⟨q0, q1, q2⟩ := sure0_step h3
    unfold betterA betterS
    by_cases hs1 : s.step = 1
    · rw [if_pos hs1, if_pos hs1]
      have hz := (hg.sure q2).2
      have hnl := (sureS_some q2).2.1
      exact cast_ag (s := s) (s1 := lockS (bestS s id)) hN h 1 id rfl rfl rfl rfl (fun _ _ => ⟨better_code hg hr h.own hs1 hz, by rw [← h.voters]; exact (sureS_some q2).1, rfl, rfl⟩) (fun e => absurd ⟨rfl, hnl⟩ e) (fun e => by omega) hr (.inr ⟨hs1, rfl⟩)
    · rw [if_neg hs1, if_neg hs1]
      exact h.same rfl rfl rfl rfl rfl ⟨h.own.later, fun e => absurd e q0, fun e => absurd e hs1⟩ (fun a ha => by cases ha)
  | late h1 h2 => exact cast_ag hN h 1 nilId rfl rfl rfl rfl (fun _ hne => absurd rfl hne) (fun _ => ⟨rfl, rfl⟩) (fun e => by omega) hr (.inr ⟨h2, rfl⟩)
  | timer h1 h2 => exact timer_ag h _ _
/-- The votes behind what came. -/
def inV (s : RdS) (i : InS) : Vt := if i.kind = 3 ∧ i.who ≠ s.me then putT s.voters s.votes i.round i.num i.who i.id else s.votes
theorem AgB.base {N : Nat} {me : Int} {V0 : Vt} {s : RdS} {g : List ActS} (h : AgB N me V0 s g) : AgB N me s.votes s [] :=
  ⟨h.voters, h.meq, h.own, h.pos, fun _ _ _ _ => rfl, fun _ _ _ hx => hx, h.late, h.held, h.lockv, h.early, fun a ha => by cases ha⟩
theorem pre_ag {N : Nat} (hN : 0 ≤ faults N) {me : Int} {s : RdS} {i : InS} (hg : GoodS s) (h : AgB N me s.votes s []) (hk : 0 ≤ i.kind ∧ i.kind < 5) : AgB N me (inV s i) (preS s i) (preA s i) := by
  have hk3 : i.kind ≠ 3 → inV s i = s.votes := fun e => if_neg fun q => e q.1
  have hsame : ∀ s2 : RdS, s2.voters = s.voters → s2.me = s.me → s2.votes = s.votes → s2.round = s.round → s2.step = s.step → s2.lockR = s.lockR → s2.lock = s.lock → AgB N me s.votes s2 [] := fun s2 a1 a2 a3 a4 a5 a6 a7 => by
    refine h.same (l := []) a1 a2 a3 a6 a7 ⟨fun r k hlt => ?_, fun e => ?_, fun e => ?_⟩ fun a ha => by cases ha
    · rw [a3, a2]
      exact h.own.later r k (by omega)
    · rw [a3, a2, a4]
      exact h.own.step0 (by omega)
    · rw [a3, a2, a4]
      exact h.own.step1 (by omega)
  have hc : i.kind = 0 ∨ i.kind = 1 ∨ i.kind = 2 ∨ i.kind = 3 ∨ i.kind = 4 := by omega
  rcases hc with h0 | h1 | h2 | h3 | h4
  · have q1 : preS s i = begS s i.id := by unfold preS; rw [if_pos h0]
    have q2 : preA s i = begA s i.id := by unfold preA; rw [if_pos h0]
    rw [q1, q2, hk3 (by omega)]
    unfold begS begA
    by_cases hr : 0 ≤ s.round
    · rw [if_pos hr, if_pos hr]
      exact h
    · rw [if_neg hr, if_neg hr]
      refine begin_ag (g := []) ?_ ?_
      · split
        · exact hsame _ rfl rfl rfl rfl rfl rfl rfl
        · exact h
      · split <;> (first | (show s.round < 0; omega) | omega)
  · have q1 : preS s i = remS s i.id := by unfold preS; rw [if_neg (by omega), if_pos h1]
    have q2 : preA s i = [] := by unfold preA; rw [if_neg (by omega), if_neg (by omega)]
    rw [q1, q2, hk3 (by omega)]
    unfold remS
    split
    · exact hsame _ rfl rfl rfl rfl rfl rfl rfl
    · exact h
  · have q1 : preS s i = offrS s i.round i.valid i.id := by unfold preS; rw [if_neg (by omega), if_neg (by omega), if_pos h2]
    have q2 : preA s i = [] := by unfold preA; rw [if_neg (by omega), if_neg (by omega)]
    rw [q1, q2, hk3 (by omega)]
    unfold offrS layS
    repeat' split
    all_goals first | exact h | exact hsame _ rfl rfl rfl rfl rfl rfl rfl
  · have q1 : preS s i = votS s i.round i.num i.who i.id := by unfold preS; rw [if_neg (by omega), if_neg (by omega), if_neg (by omega), if_pos h3]
    have q2 : preA s i = [] := by unfold preA; rw [if_neg (by omega), if_neg (by omega)]
    rw [q1, q2]
    by_cases hw : i.who = s.me
    · have v1 : votS s i.round i.num i.who i.id = s := if_neg (fun e => e hw)
      have v2 : inV s i = s.votes := if_neg (fun e => e.2 hw)
      rw [v1, v2]
      exact h
    · have v1 : votS s i.round i.num i.who i.id = { s with votes := putT s.voters s.votes i.round i.num i.who i.id } := if_pos hw
      have v2 : inV s i = putT s.voters s.votes i.round i.num i.who i.id := if_pos ⟨h3, hw⟩
      rw [v1, v2]
      have hwm : ¬ i.who = me := fun e => hw (e.trans h.meq.symm)
      have hfar : ∀ r k, putT s.voters s.votes i.round i.num i.who i.id r k me = s.votes r k me := fun r k => putT_far (fun e => hwm e.2.2.symm)
      have hfar2 : ∀ r k, putT s.voters s.votes i.round i.num i.who i.id r k s.me = s.votes r k s.me := fun r k => putT_far (fun e => hw e.2.2.symm)
      have hst : ∀ r j x, sureO N s.votes r j = some x → sureO N (putT s.voters s.votes i.round i.num i.who i.id) r j = some x := fun r j x hx => sureO_stays hN (fun q _ hq => putT_keeps hq) hx
      refine ⟨h.voters, h.meq, ⟨fun r k hlt => (hfar2 r k).trans (h.own.later r k hlt), fun e => ?_, fun e => (hfar2 _ _).trans (h.own.step1 e)⟩, fun r k x hx => ?_, fun _ _ _ _ => rfl, fun _ _ _ hx => hx, fun r x hx hne => ?_, fun r x hx hne => ?_, fun hp => ?_, fun r x r' y hx hxn hy hyn hlt => ?_, fun a ha => by cases ha⟩
      · have := h.own.step0 e
        exact ⟨(hfar2 _ _).trans this.1, (hfar2 _ _).trans this.2⟩
      · exact h.pos r k x ((hfar r k).symm.trans hx)
      · exact hst _ _ _ (h.late r x ((hfar r 1).symm.trans hx) hne)
      · exact h.held r x ((hfar r 1).symm.trans hx) hne
      · have := h.lockv hp
        exact ⟨(hfar _ _).trans this.1, this.2⟩
      · rcases h.early r x r' y ((hfar r 1).symm.trans hx) hxn ((hfar r' 0).symm.trans hy) hyn hlt with q | ⟨j, q1, q2, q3⟩
        · exact .inl q
        · exact .inr ⟨j, q1, q2, hst _ _ _ q3⟩
  · have q1 : preS s i = timeS s i.round i.num := by unfold preS; rw [if_neg (by omega), if_neg (by omega), if_neg (by omega), if_neg (by omega)]
    have q2 : preA s i = timeA s i.round i.num := by unfold preA; rw [if_neg (by omega), if_pos h4]
    rw [q1, q2, hk3 (by omega)]
    by_cases hh : i.round = s.round ∧ s.step ≠ 3
    · have hr := early_round hg.ok hh.2
      unfold timeS timeA
      rw [if_pos hh, if_pos hh]
      by_cases hq : i.num = 0 ∧ s.step = 0
      · rw [if_pos hq, if_pos hq]
        exact cast_ag (g := []) hN h 0 nilId rfl rfl rfl rfl (fun e => by omega) (fun _ => ⟨rfl, rfl⟩) (fun _ hne => absurd rfl hne) hr (.inl ⟨hq.2, rfl⟩)
      · rw [if_neg hq, if_neg hq]
        by_cases hq1 : i.num = 1 ∧ s.step = 1
        · rw [if_pos hq1, if_pos hq1]
          exact cast_ag (g := []) hN h 1 nilId rfl rfl rfl rfl (fun _ hne => absurd rfl hne) (fun _ => ⟨rfl, rfl⟩) (fun e => by omega) hr (.inr ⟨hq1.2, rfl⟩)
        · rw [if_neg hq1, if_neg hq1]
          by_cases hq2 : i.num = 2
          · rw [if_pos hq2, if_pos hq2]
            exact begin_ag (g := []) h (by omega)
          · rw [if_neg hq2, if_neg hq2]
            exact h
    · unfold timeS timeA
      rw [if_neg hh, if_neg hh]
      exact h
/-- Whatever comes to one of those who aren't faulty. -/
theorem give_ag {N : Nat} (hN : 0 ≤ faults N) {me : Int} {s : RdS} {i : InS} (hg : GoodS s) (hid : IdOk i.id) (h : AgB N me s.votes s []) (hk : 0 ≤ i.kind ∧ i.kind < 5) : AgB N me (inV s i) (giveS s i) (giveA s i) := by
  unfold giveA giveS
  rw [if_pos hk, if_pos hk]
  obtain ⟨_, _, i2⟩ := settle_keeps (AgB N me (inV s i)) (step_ag hN) (pre_goodS hg i hid) (pre_ag hN hg h hk)
  rw [foldl_upG] at i2
  exact i2
/-- Several of whom the first H aren't faulty. -/
structure AgAll (N H : Nat) (S : List RdS) : Prop where
  size : S.length = H
  one : ∀ (i : Nat) (s : RdS), S[i]? = some s → AgB N i s.votes s []
  told : ∀ (i j : Nat) (s t : RdS), S[i]? = some s → S[j]? = some t → ∀ r k x, t.votes r k i = some x → s.votes r k i = some x
/-- What is sure by late votes, nothing else is sure by early votes from then on. -/
theorem AgAll.only {N H : Nat} {S : List RdS} (hN : 0 ≤ faults N) (hH : (H : Int) = N - faults N) (h : AgAll N H S) {j : Nat} {s : RdS} (hj : S[j]? = some s) {r : Int} {x : List UInt8} (hx : sureO N s.votes r 1 = some x) (hxn : x ≠ nilId) :
    ∀ (n : Nat) (k : Int), r ≤ k → k ≤ r + n → ∀ (m : Nat) (t : RdS) (y : List UInt8), S[m]? = some t → sureO N t.votes k 0 = some y → y ≠ nilId → y = x := by
  intro n
  induction n with
  | zero =>
    intro k hk1 hk2 m t y hm hy hyn
    obtain rfl : k = r := by omega
    obtain ⟨q, hq, c1, c2⟩ := quorum hN hH hx hy
    obtain ⟨u, hu⟩ : ∃ u, S[q]? = some u := ⟨_, List.getElem?_eq_getElem (by rw [h.size]; exact hq)⟩
    have o1 := h.told q j u s hu hj _ _ _ c1
    have l1 := (h.one q u hu).late _ _ o1 hxn
    obtain ⟨q', hq', d1, d2⟩ := quorum hN hH l1 hy
    obtain ⟨u', hu'⟩ : ∃ u, S[q']? = some u := ⟨_, List.getElem?_eq_getElem (by rw [h.size]; exact hq')⟩
    have p1 := h.told q' q u' u hu' hu _ _ _ d1
    have p2 := h.told q' m u' t hu' hm _ _ _ d2
    rw [p1] at p2
    exact (Option.some.inj p2).symm
  | succ n ih =>
    intro k hk1 hk2 m t y hm hy hyn
    by_cases hk : k ≤ r + n
    · exact ih k hk1 hk m t y hm hy hyn
    · obtain ⟨q, hq, c1, c2⟩ := quorum hN hH hx hy
      obtain ⟨u, hu⟩ : ∃ u, S[q]? = some u := ⟨_, List.getElem?_eq_getElem (by rw [h.size]; exact hq)⟩
      have o1 := h.told q j u s hu hj _ _ _ c1
      have o2 := h.told q m u t hu hm _ _ _ c2
      rcases (h.one q u hu).early r x k y o1 hxn o2 hyn (by omega) with e | ⟨i, e1, e2, e3⟩
      · exact e.symm
      · exact ih i e1 (by omega) q u y hu e3 hyn
/-- No two are done with unlike things. -/
theorem AgAll.agree {N H : Nat} {S : List RdS} (hN : 0 ≤ faults N) (hH : (H : Int) = N - faults N) (h : AgAll N H S) {i j : Nat} {s t : RdS} (hi : S[i]? = some s) (hj : S[j]? = some t) {r r' : Int} {x y : List UInt8}
    (hx : sureO N s.votes r 1 = some x) (hxn : x ≠ nilId) (hy : sureO N t.votes r' 1 = some y) (hyn : y ≠ nilId) : x = y := by
  have go : ∀ {i j : Nat} {s t : RdS} (hi : S[i]? = some s) (hj : S[j]? = some t) {r r' : Int} {x y : List UInt8} (hx : sureO N s.votes r 1 = some x) (hxn : x ≠ nilId) (hy : sureO N t.votes r' 1 = some y) (hyn : y ≠ nilId), r ≤ r' → y = x := by
    intro i j s t hi hj r r' x y hx hxn hy hyn hle
    obtain ⟨q, hq, c1, _⟩ := quorum hN hH hy hy
    obtain ⟨u, hu⟩ : ∃ u, S[q]? = some u := ⟨_, List.getElem?_eq_getElem (by rw [h.size]; exact hq)⟩
    have o1 := h.told q j u t hu hj _ _ _ c1
    have l1 := (h.one q u hu).late _ _ o1 hyn
    exact h.only hN hH hi hx hxn (r' - r).toNat r' hle (by omega) q u y hu l1 hyn
  rcases Int.le_total r r' with hle | hle
  · exact (go hi hj hx hxn hy hyn hle).symm
  · exact go hj hi hy hyn hx hxn hle
end Go.Proofs.Ytclhfokflagopaa
