/-
  Several ways to agreement, with their mails: what holds on the way. Nothing here speaks of the program. No condition.
-/
import Derived.Test.YtclhfokflagopaaRndCome
import Derived.Test.YtclhfokflagopaaRndOpen
namespace Go.Proofs.Ytclhfokflagopaa
open Go Go.RowKit Go.Maps

theorem send_mem {H i : Nat} {a : ActS} {ms : List MailS} {m : MailS} : ∀ n, m ∈ sendM H i a ms n → m ∈ ms ∨ ∃ q, q < n ∧ q ≠ i ∧ m = ⟨(i : Int), (q : Int), a⟩
  | 0, h => .inl h
  | n + 1, h => by
    rw [sendM_succ] at h
    split at h
    · rename_i hc
      rcases List.mem_append.1 h with h | h
      · rcases send_mem n h with h | ⟨q, h1, h2, h3⟩
        · exact .inl h
        · exact .inr ⟨q, by omega, h2, h3⟩
      · rw [List.mem_singleton] at h
        exact .inr ⟨n, Nat.lt_succ_self n, hc.1, h⟩
    · rcases send_mem n h with h | ⟨q, h1, h2, h3⟩
      · exact .inl h
      · exact .inr ⟨q, by omega, h2, h3⟩
theorem takeM_mem {H i : Nat} {m : MailS} : ∀ (l : List ActS) (ms : List MailS), m ∈ l.foldl (takeM1 H i) ms → m ∈ ms ∨ ∃ a ∈ l, ∃ q, q < H ∧ q ≠ i ∧ m = ⟨(i : Int), (q : Int), a⟩
  | [], ms, h => .inl h
  | a :: l, ms, h => by
    rw [List.foldl_cons] at h
    rcases takeM_mem l _ h with h | ⟨b, hb, q, h1⟩
    · unfold takeM1 at h
      split at h
      · rcases send_mem H h with h | ⟨q, h1, h2, h3⟩
        · exact .inl h
        · exact .inr ⟨a, List.mem_cons_self, q, h1, h2, h3⟩
      · exact .inl h
    · exact .inr ⟨b, List.mem_cons_of_mem _ hb, q, h1⟩
theorem takeD_get {i q : Nat} {y : List UInt8} : ∀ (l : List ActS) (ds : List (List UInt8)), (l.foldl (takeD1 i) ds)[q]? = some y → ds[q]? = some y ∨ (q = i ∧ ∃ a ∈ l, a.kind = 4 ∧ y = a.id)
  | [], ds, h => .inl h
  | a :: l, ds, h => by
    rw [List.foldl_cons] at h
    rcases takeD_get l _ h with h | ⟨e, b, hb, h1⟩
    · unfold takeD1 at h
      split at h
      · rename_i hk
        rw [List.getElem?_set] at h
        split at h
        · rename_i he
          split at h
          · exact .inr ⟨he.symm, a, List.mem_cons_self, hk, (Option.some.inj h).symm⟩
          · cases h
        · exact .inl h
      · exact .inl h
    · exact .inr ⟨e, b, List.mem_cons_of_mem _ hb, h1⟩
/-- What holds on the way. -/
structure AgP (N H : Nat) (h : HM) : Prop where
  all : AgAll N H (h.l.map (·.s))
  mails : ∀ m ∈ h.ms, ∃ i d : Nat, m.src = (i : Int) ∧ m.dst = (d : Int) ∧ i < H ∧ d < H ∧ i ≠ d ∧ (m.act.kind = 2 → ∀ x : RB, h.l[i]? = some x → x.s.votes m.act.round m.act.num i = some m.act.id)
  dones : ∀ (q : Nat) (y : List UInt8), h.ds[q]? = some y → y = zeroId ∨ ∃ (r : Int) (x : RB), h.l[q]? = some x ∧ sureO N x.s.votes r 1 = some y ∧ y ≠ nilId
theorem map_get {l : List RB} {i : Nat} {x : RB} (h : l[i]? = some x) : (l.map (·.s))[i]? = some x.s := by rw [List.getElem?_map, h]; rfl
theorem get_map {l : List RB} {i : Nat} {s : RdS} (h : (l.map (·.s))[i]? = some s) : ∃ x, l[i]? = some x ∧ x.s = s := by
  rw [List.getElem?_map] at h
  cases hx : l[i]? with
  | none => rw [hx] at h; cases h
  | some x => rw [hx] at h; exact ⟨x, rfl, Option.some.inj h⟩
/-- Something comes to one of them, who does what is due. -/
theorem AgP.step {N H : Nat} {h : HM} (hN : 0 ≤ faults N) (k : AgP N H h) {d : Nat} {x : RB} (hx : h.l[d]? = some x) (hg : GoodS x.s) (inp : InS) (hid : IdOk inp.id) (hk : 0 ≤ inp.kind ∧ inp.kind < 5)
    (hin : inp.kind = 3 → ∀ i : Nat, i ≠ d → inp.who = (i : Int) → ∀ y : RB, h.l[i]? = some y → y.s.votes inp.round inp.num i = some inp.id) (kv vm : Value) : AgP N H (stepH H h d x kv vm (giveS x.s inp) (giveA x.s inp)) := by
  have hone := k.all.one d x.s (map_get hx)
  have hag := give_ag hN hg hid hone hk
  obtain ⟨s', hs'⟩ : ∃ s', giveS x.s inp = s' := ⟨_, rfl⟩
  obtain ⟨acts, hacts⟩ : ∃ acts, giveA x.s inp = acts := ⟨_, rfl⟩
  rw [hs', hacts] at hag ⊢
  have hmap : (stepH H h d x kv vm s' acts).l.map (·.s) = (h.l.map (·.s)).set d s' := by
    show (h.l.set d _).map (·.s) = _
    rw [List.map_set]
  have hmx : (h.l.map (·.s))[d]? = some x.s := map_get hx
  have hget : ∀ (i : Nat) (s : RdS), ((h.l.map (·.s)).set d s')[i]? = some s → (i = d ∧ s = s') ∨ (i ≠ d ∧ (h.l.map (·.s))[i]? = some s) := fun i s hh => by
    rw [List.getElem?_set] at hh
    by_cases he : d = i
    · rw [if_pos he] at hh
      split at hh
      · exact .inl ⟨he.symm, (Option.some.inj hh).symm⟩
      · cases hh
    · rw [if_neg he] at hh
      exact .inr ⟨fun e => he e.symm, hh⟩
  have hsel : ∀ (i : Nat) (y : RB), (h.l.set d ⟨x.B, x.C, x.M, x.n + 202, kv, s'⟩)[i]? = some y → (i = d ∧ y.s = s') ∨ (i ≠ d ∧ h.l[i]? = some y) := fun i y hh => by
    rcases set_get hh with ⟨e, rfl⟩ | ⟨e, hh⟩
    · exact .inl ⟨e, rfl⟩
    · exact .inr ⟨e, hh⟩
  have hme : x.s.me = (d : Int) := hone.meq
  have hgrowD : ∀ r j y, x.s.votes r j d = some y → s'.votes r j d = some y := fun r j y hy => hag.grow r j y (by
    unfold inV
    split
    · exact putT_keeps hy
    · exact hy)
  have hgrowQ : ∀ r j (q : Int) y, x.s.votes r j q = some y → s'.votes r j q = some y := fun r j q y hy => by
    by_cases hq : q = (d : Int)
    · subst hq
      exact hgrowD r j y hy
    · rw [hag.oth r j q hq]
      unfold inV
      split
      · exact putT_keeps hy
      · exact hy
  refine ⟨?_, fun m hm => ?_, fun q y hy => ?_⟩
  · rw [hmap]
    refine ⟨by rw [List.length_set]; exact k.all.size, fun i s hs => ?_, fun i j s t hs ht r c y hy => ?_⟩
    · rcases hget i s hs with ⟨rfl, rfl⟩ | ⟨_, hs⟩
      · exact hag.base
      · exact k.all.one i s hs
    · rcases hget i s hs with ⟨rfl, rfl⟩ | ⟨hi, hs2⟩ <;> rcases hget j t ht with ⟨rfl, rfl⟩ | ⟨hj, ht2⟩
      · exact hy
      · exact hgrowD r c y (k.all.told i j x.s t hmx ht2 r c y hy)
      · have hne : (i : Int) ≠ (j : Int) := by omega
        rw [hag.oth r c i hne] at hy
        unfold inV at hy
        split at hy
        · rename_i hc
          by_cases he : r = inp.round ∧ c = inp.num ∧ (i : Int) = inp.who
          · obtain ⟨rfl, rfl, hw⟩ := he
            obtain ⟨z, hz, hzs⟩ := get_map hs2
            have h1 := hin hc.1 i hi hw.symm z hz
            rw [hzs] at h1
            cases hv : x.s.votes inp.round inp.num i with
            | some y' =>
              rw [putT_keeps hv] at hy
              exact k.all.told i j s x.s hs2 hmx _ _ _ (hv.trans hy)
            | none =>
              by_cases hp : putCode x.s.voters x.s.votes inp.round inp.num inp.who inp.id = 0
              · have h2 := putT_new hp
                rw [← hw] at h2
                rw [← hw, h2] at hy
                rw [h1]
                exact hy
              · rw [putT_bad hp, hv] at hy
                cases hy
          · rw [putT_far he] at hy
            exact k.all.told i j s x.s hs2 hmx r c y hy
        · exact k.all.told i j s x.s hs2 hmx r c y hy
      · exact k.all.told i j s t hs2 ht2 r c y hy
  · rcases takeM_mem acts h.ms hm with hm | ⟨a, ha, q, hq, hqd, rfl⟩
    · obtain ⟨i, e, h1, h2, h3, h4, h5, h6⟩ := k.mails m hm
      refine ⟨i, e, h1, h2, h3, h4, h5, fun h7 z hz => ?_⟩
      rcases hsel i z hz with ⟨rfl, hzs⟩ | ⟨_, hz⟩
      · rw [hzs]
        exact hgrowD _ _ _ (h6 h7 x hx)
      · exact h6 h7 z hz
    · have hdH : d < H := by
        have := (List.getElem?_eq_some_iff.1 hmx).1
        rw [k.all.size] at this
        exact this
      refine ⟨d, q, rfl, rfl, hdH, hq, fun e => hqd e.symm, fun h7 z hz => ?_⟩
      rcases hsel d z hz with ⟨_, hzs⟩ | ⟨h8, _⟩
      · rw [hzs]
        exact (hag.acts a ha).1 h7
      · exact absurd rfl h8
  · have hset : (h.l.set d ⟨x.B, x.C, x.M, x.n + 202, kv, s'⟩)[d]? = some ⟨x.B, x.C, x.M, x.n + 202, kv, s'⟩ := by
      rw [List.getElem?_set, if_pos rfl, if_pos (List.getElem?_eq_some_iff.1 hx).1]
    rcases takeD_get acts h.ds hy with hy | ⟨rfl, a, ha, ha4, rfl⟩
    · rcases k.dones q y hy with h1 | ⟨r, z, h1, h2, h3⟩
      · exact .inl h1
      · right
        by_cases hq : q = d
        · subst hq
          rw [hx] at h1
          obtain rfl := Option.some.inj h1
          exact ⟨r, _, hset, sureO_stays hN (fun p _ hp => hgrowQ _ _ _ _ hp) h2, h3⟩
        · exact ⟨r, z, by show (h.l.set d _)[q]? = some z; rw [List.getElem?_set, if_neg (fun e => hq e.symm)]; exact h1, h2, h3⟩
    · right
      exact ⟨a.round, _, hset, ((hag.acts a ha).2 ha4).1, ((hag.acts a ha).2 ha4).2⟩
/-- At the beginning. -/
theorem AgP.begin {N H : Nat} {h : HM} (hl : h.l.length = H) (hm : h.ms = []) (hd : h.ds = List.replicate H zeroId) (hf : ∀ (q : Nat) (x : RB), h.l[q]? = some x → FreshR N q x.s) : AgP N H h := by
  refine ⟨⟨by rw [List.length_map]; exact hl, fun i s hs => ?_, fun i j s t hs ht r k x hx => ?_⟩, fun m hmm => (by rw [hm] at hmm; cases hmm), fun q y hy => ?_⟩
  · obtain ⟨x, hx, rfl⟩ := get_map hs
    exact (hf i x hx).ag
  · obtain ⟨y, hy, rfl⟩ := get_map ht
    rw [(hf j y hy).votes] at hx
    cases hx
  · rw [hd, List.getElem?_replicate] at hy
    split at hy
    · exact .inl (Option.some.inj hy).symm
    · cases hy
/-- All who are done are done with the same. -/
theorem AgP.same {N H : Nat} {h : HM} (hN : 0 ≤ faults N) (hH : (H : Int) = N - faults N) (k : AgP N H h) {p q : Nat} {x y : List UInt8} (hp : h.ds[p]? = some x) (hq : h.ds[q]? = some y) (hx : x ≠ zeroId) (hy : y ≠ zeroId) : x = y := by
  rcases k.dones p x hp with h1 | ⟨r, a, a1, a2, a3⟩
  · exact absurd h1 hx
  rcases k.dones q y hq with h1 | ⟨r', b, b1, b2, b3⟩
  · exact absurd h1 hy
  exact k.all.agree hN hH (map_get a1) (map_get b1) a2 a3 b2 b3
/-- The law's way: so many moves are done. -/
structure AgL (w : World) (N H Hb j : Nat) (h : HM) (wr : World) : Prop where
  m : HallM w.heap.size wr H h
  hb : h.Hb = Hb
  base : Below w.heap.size w wr
  ag : AgP N H h
  few : ∀ (q : Nat) (x : RB), h.l[q]? = some x → x.n ≤ 1010 + 202 * j
theorem AgL.below {w : World} {N H Hb j : Nat} {h : HM} {wr w' : World} (k : AgL w N H Hb j h wr) (hb : Below wr.heap.size wr w') : AgL w N H Hb j h w' := ⟨k.m.below hb, k.hb, k.base.trans (hb.mono k.base.size), k.ag, k.few⟩
theorem AgL.more {w : World} {N H Hb j : Nat} {h : HM} {wr : World} (k : AgL w N H Hb j h wr) : AgL w N H Hb (j + 1) h wr := ⟨k.m, k.hb, k.base, k.ag, fun q x hx => by have := k.few q x hx; omega⟩
theorem AgL.step {w : World} {N H Hb j : Nat} {h : HM} {wr wt : World} (hN : 0 ≤ faults N) (k : AgL w N H Hb j h wr) {d : Nat} {x : RB} (hx : h.l[d]? = some x) (inp : InS) (hid : IdOk inp.id) (hk : 0 ≤ inp.kind ∧ inp.kind < 5)
    (hin : inp.kind = 3 → ∀ i : Nat, i ≠ d → inp.who = (i : Int) → ∀ y : RB, h.l[i]? = some y → y.s.votes inp.round inp.num i = some inp.id) {kv vm : Value} (hm : HallM w.heap.size wt H (stepH H h d x kv vm (giveS x.s inp) (giveA x.s inp))) (hb : Below w.heap.size w wt) : AgL w N H Hb (j + 1) (stepH H h d x kv vm (giveS x.s inp) (giveA x.s inp)) wt := by
  refine ⟨hm, k.hb, hb, k.ag.step hN hx (k.m.hall.good hx) inp hid hk hin kv vm, fun q y hy => ?_⟩
  rcases set_get hy with ⟨_, rfl⟩ | ⟨_, hy⟩
  · have := k.few d x hx
    show x.n + 202 ≤ _
    omega
  · have := k.few q y hy
    omega
end Go.Proofs.Ytclhfokflagopaa
