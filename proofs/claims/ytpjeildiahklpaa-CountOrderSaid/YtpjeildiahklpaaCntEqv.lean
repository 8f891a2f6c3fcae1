/-
  A list of votes and votes as a function come to the same. Nothing here speaks of the program. No condition.
-/
import Derived.Test.YtpjeildiahklpaaCntRefA
namespace Go.Proofs.Ytpjeildiahklpaa

def vtOf (L : List VoteT) : Vt := fun r k s => (L.find? (isRKS r k s)).map (·.id)
/-- A list of votes that each can be, no two alike in round, kind and voter. -/
def GoodL (N : Int) (L : List VoteT) : Prop := (∀ v ∈ L, okPut N v.r v.k v.s v.id = true) ∧ L.Pairwise apartV
theorem isRKS_iff {r k s : Int} {v : VoteT} : isRKS r k s v = true ↔ v.r = r ∧ v.k = k ∧ v.s = s := by
  unfold isRKS
  simp only [Bool.and_eq_true, beq_iff_eq]
  exact ⟨fun h => ⟨h.1.1, h.1.2, h.2⟩, fun h => ⟨⟨h.1, h.2.1⟩, h.2.2⟩⟩
theorem vtOf_cons (v : VoteT) (L : List VoteT) (r k s : Int) : vtOf (v :: L) r k s = if isRKS r k s v = true then some v.id else vtOf L r k s := by
  unfold vtOf
  rw [List.find?_cons]
  cases isRKS r k s v <;> simp
theorem vtOf_none {L : List VoteT} {r k s : Int} (h : ∀ v ∈ L, isRKS r k s v = false) : vtOf L r k s = none := by
  unfold vtOf
  rw [List.find?_eq_none.2 (fun v hv => by rw [h v hv]; simp)]
  rfl
theorem okPut_parts {N r k s : Int} {id : List UInt8} (h : okPut N r k s id = true) : 0 ≤ r ∧ r < 12 ∧ (k = 0 ∨ k = 1) ∧ 0 ≤ s ∧ s < N ∧ id ≠ zeroId := by
  unfold okPut at h
  simp only [Bool.and_eq_true, Bool.or_eq_true, decide_eq_true_eq, Bool.not_eq_true', beq_eq_false_iff_ne] at h
  obtain ⟨⟨⟨⟨⟨h1, h2⟩, h3⟩, h4⟩, h5⟩, h6⟩ := h
  exact ⟨h1, h2, h3, h4, h5, h6⟩
theorem range_flip (p p' : Nat → Bool) (b : Bool) (s0 : Nat) (hs : ∀ s, s ≠ s0 → p' s = p s) (h0 : p s0 = false) (h1 : p' s0 = b) : ∀ N, (List.range N).countP p' = (List.range N).countP p + (if s0 < N ∧ b = true then 1 else 0) := by
  intro N
  induction N with
  | zero => simp
  | succ N ih =>
    rw [range_countP_succ, range_countP_succ, ih]
    by_cases he : N = s0
    · subst he
      rw [h0, h1]
      cases b <;> simp
    · rw [hs N he]
      by_cases hb : b = true
      · by_cases hl : s0 < N
        · have c1 : (if s0 < N ∧ b = true then 1 else 0) = 1 := if_pos ⟨hl, hb⟩
          have c2 : (if s0 < N + 1 ∧ b = true then 1 else 0) = 1 := if_pos ⟨by omega, hb⟩
          rw [c1, c2]
          omega
        · have c1 : (if s0 < N ∧ b = true then 1 else 0) = 0 := if_neg fun h => hl h.1
          have c2 : (if s0 < N + 1 ∧ b = true then 1 else 0) = 0 := if_neg fun h => hl (by have := h.1; omega)
          rw [c1, c2]
          omega
      · have c1 : (if s0 < N ∧ b = true then 1 else 0) = 0 := if_neg fun h => hb h.2
        have c2 : (if s0 < N + 1 ∧ b = true then 1 else 0) = 0 := if_neg fun h => hb h.2
        rw [c1, c2]
        omega
/-- So many votes of a kind in the list as there are voters. -/
theorem count_eqv (N : Nat) (r k : Int) (Q : List UInt8 → Bool) : ∀ L, GoodL N L → L.countP (fun v => isRK r k v && Q v.id) = (List.range N).countP fun (s : Nat) => (vtOf L r k s).any Q := by
  intro L
  induction L with
  | nil =>
    intro _
    have e : ((List.range N).countP fun (s : Nat) => (vtOf [] r k s).any Q) = 0 := List.countP_eq_zero.2 (fun s _ => by simp [vtOf])
    rw [e]
    rfl
  | cons v L ih =>
    intro h
    have hL : GoodL N L := ⟨fun u hu => h.1 u (List.mem_cons_of_mem _ hu), (List.pairwise_cons.1 h.2).2⟩
    obtain ⟨_, _, _, hs0, hsN, _⟩ := okPut_parts (h.1 v (List.mem_cons_self ..))
    rw [List.countP_cons, ih hL]
    by_cases hk : isRK r k v = true
    · have hrk : v.r = r ∧ v.k = k := by
        unfold isRK at hk
        simpa using hk
      obtain ⟨s0, hs⟩ := Int.eq_ofNat_of_zero_le hs0
      have hn : vtOf L r k s0 = none := vtOf_none fun u hu => by
        rw [← Bool.not_eq_true, isRKS_iff]
        rintro ⟨h1, h2, h3⟩
        exact (List.pairwise_cons.1 h.2).1 u hu ⟨by rw [h1, hrk.1], by rw [h2, hrk.2], by rw [h3, hs]⟩
      rw [range_flip (fun (s : Nat) => (vtOf L r k s).any Q) (fun (s : Nat) => (vtOf (v :: L) r k s).any Q) (Q v.id) s0 (fun s hne => by
        show (vtOf (v :: L) r k s).any Q = _
        rw [vtOf_cons, if_neg (by rw [isRKS_iff]; rintro ⟨_, _, h3⟩; exact hne (by omega))]) (by show (vtOf L r k s0).any Q = false; rw [hn]; rfl) (by show (vtOf (v :: L) r k s0).any Q = _; rw [vtOf_cons, if_pos (isRKS_iff.2 ⟨hrk.1, hrk.2, hs⟩)]; rfl) N]
      have hlt : s0 < N := by omega
      rw [hk]
      simp [hlt]
    · have hk' : isRK r k v = false := by rw [← Bool.not_eq_true]; exact hk
      rw [hk']
      simp only [Bool.false_and, Bool.false_eq_true, if_false, Nat.add_zero]
      refine List.countP_congr fun s _ => ?_
      rw [vtOf_cons, if_neg (by rw [isRKS_iff]; rintro ⟨h1, h2, _⟩; exact hk (by unfold isRK; rw [h1, h2]; simp))]
theorem all_eqv {N : Nat} {L : List VoteT} (h : GoodL N L) (r k : Int) : L.countP (isRK r k) = allN N (vtOf L) r k := by
  have := count_eqv N r k (fun _ => true) L h
  simp only [Bool.and_true] at this
  rw [show L.countP (isRK r k) = L.countP (fun v => isRK r k v) from rfl, this]
  unfold allN
  refine List.countP_congr fun s _ => ?_
  cases vtOf L r k s <;> simp
theorem for_eqv {N : Nat} {L : List VoteT} (h : GoodL N L) (r k : Int) (id : List UInt8) : L.countP (isFor r k id) = forN N (vtOf L) r k id := by
  have := count_eqv N r k (fun x => x == id) L h
  rw [show L.countP (isFor r k id) = L.countP (fun v => isRK r k v && (v.id == id)) from rfl, this]
  unfold forN
  refine List.countP_congr fun s _ => ?_
  cases vtOf L r k s <;> simp
theorem get_eqv (L : List VoteT) (r k s : Int) : refGet L r k s = (vtOf L r k s).getD zeroId := by
  unfold refGet vtOf
  cases L.find? (isRKS r k s) <;> rfl
theorem vtOf_ok {N : Int} {L : List VoteT} (h : GoodL N L) {r k s : Int} {x : List UInt8} (hx : vtOf L r k s = some x) : okPut N r k s x = true := by
  unfold vtOf at hx
  rw [Option.map_eq_some_iff] at hx
  obtain ⟨v, hv, rfl⟩ := hx
  have h1 := h.1 v (List.mem_of_find?_eq_some hv)
  obtain ⟨rfl, rfl, rfl⟩ := isRKS_iff.1 (List.find?_some hv)
  exact h1
theorem get_zero {N : Int} {L : List VoteT} (h : GoodL N L) (r k s : Int) : (refGet L r k s == zeroId) = (vtOf L r k s).isNone := by
  rw [get_eqv]
  cases hx : vtOf L r k s with
  | none => simp
  | some x =>
    have := (okPut_parts (vtOf_ok h hx)).2.2.2.2.2
    simpa using this
/-- What is sure. -/
theorem sure_eqv {N : Nat} {L : List VoteT} (h : GoodL N L) (hf : 0 ≤ faults N) (r k : Int) : refSure N L r k = sureO N (vtOf L) r k := by
  have hneed : need N = 2 * faults N + 1 := by unfold need; omega
  have iff : ∀ x, refSure N L r k = some x → sureO N (vtOf L) r k = some x := fun x hx => by
    unfold refSure at hx
    rw [Option.map_eq_some_iff] at hx
    obtain ⟨v, hv, rfl⟩ := hx
    have h1 := List.find?_some hv
    unfold isSure at h1
    rw [Bool.and_eq_true, decide_eq_true_eq, for_eqv h] at h1
    rw [sureO_iff hf, hneed]
    exact h1.2
  cases ho : refSure N L r k with
  | some x => exact (iff x ho).symm
  | none =>
    cases hs : sureO N (vtOf L) r k with
    | none => rfl
    | some x =>
      have h1 := (sureO_iff hf).1 hs
      have hp := need_pos hf
      obtain ⟨s, hm⟩ := forN_mem (n := N) (V := vtOf L) (r := r) (k := k) (x := x) (by omega)
      have hv := (mem_castL.1 hm).2
      unfold vtOf at hv
      rw [Option.map_eq_some_iff] at hv
      obtain ⟨v, hv, rfl⟩ := hv
      obtain ⟨q1, q2, _⟩ := isRKS_iff.1 (List.find?_some hv)
      unfold refSure at ho
      rw [Option.map_eq_none_iff, List.find?_eq_none] at ho
      refine absurd ?_ (ho v (List.mem_of_find?_eq_some hv))
      unfold isSure isRK
      rw [for_eqv h, ← hneed, q1, q2]
      simpa using h1
/-- Who voted in a round. -/
theorem here_eqv {N : Nat} {L : List VoteT} (h : GoodL N L) (r : Int) : hereN N L r = (presentL N (vtOf L) r).length := by
  unfold presentL hereN
  rw [List.length_append, castL_all]
  unfold allN castL
  rw [countP_filterMap]
  have key : ∀ l : List Nat, l.countP (hereB L r) = l.countP (fun (s : Nat) => (vtOf L r 0 s).isSome) + l.countP (fun (a : Nat) => match (vtOf L r 1 a).map fun f => (a, f) with | some b => (vtOf L r 0 b.1).isNone | none => false) := by
    intro l
    induction l with
    | nil => rfl
    | cons a l ih =>
      rw [List.countP_cons, List.countP_cons, List.countP_cons, ih]
      have e : hereB L r a = ((vtOf L r 0 a).isSome || (vtOf L r 1 a).isSome) := by
        unfold hereB
        rw [get_zero h, get_zero h]
        cases vtOf L r 0 a <;> cases vtOf L r 1 a <;> rfl
      rw [e]
      cases h0 : vtOf L r 0 a <;> cases h1 : vtOf L r 1 a <;> simp [h0] <;> omega
  rw [key]
  congr 1
  refine List.countP_congr fun s _ => ?_
  cases vtOf L r 1 s <;> simp
theorem ahead_eqv {N : Nat} {L : List VoteT} (h : GoodL N L) (r : Int) : lastQ (aheadQ N L r) 12 = aheadO N (vtOf L) r := by
  unfold lastQ aheadO
  congr 1
  refine List.filter_congr fun m _ => ?_
  unfold aheadQ
  rw [here_eqv h]
/-- One more vote. -/
theorem put_eqv {L : List VoteT} (v : VoteT) (hg : vtOf L v.r v.k v.s = none) : vtOf (L ++ [v]) = putC (vtOf L) v.r v.k v.s v.id := by
  funext r k s
  unfold putC
  show (((L ++ [v]).find? (isRKS r k s)).map (·.id)) = _
  rw [List.find?_append]
  by_cases hh : isRKS r k s v = true
  · obtain ⟨rfl, rfl, rfl⟩ := isRKS_iff.1 hh
    rw [if_pos ⟨rfl, rfl, rfl⟩]
    have h2 : L.find? (isRKS v.r v.k v.s) = none := by
      unfold vtOf at hg
      simpa using hg
    rw [h2]
    simp [hh]
  · rw [if_neg (fun h => hh (isRKS_iff.2 ⟨h.1.symm, h.2.1.symm, h.2.2.symm⟩))]
    have h2 : isRKS r k s v = false := by rw [← Bool.not_eq_true]; exact hh
    simp [h2, vtOf]
theorem good_put {N : Int} {L : List VoteT} (h : GoodL N L) {v : VoteT} (ho : okPut N v.r v.k v.s v.id = true) (hg : vtOf L v.r v.k v.s = none) : GoodL N (L ++ [v]) := by
  refine ⟨fun u hu => ?_, List.pairwise_append.2 ⟨h.2, List.pairwise_singleton _ _, fun u hu w hw => ?_⟩⟩
  · rcases List.mem_append.1 hu with h' | h'
    · exact h.1 u h'
    · rw [List.mem_singleton] at h'
      rw [h']
      exact ho
  · rw [List.mem_singleton] at hw
    rw [hw]
    intro he
    unfold vtOf at hg
    rw [Option.map_eq_none_iff, List.find?_eq_none] at hg
    exact hg u hu (isRKS_iff.2 he)
end Go.Proofs.Ytpjeildiahklpaa
