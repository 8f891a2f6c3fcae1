/-
  What Read answers is what the plain mathematics says (List is kept up to one entry too many, which the check refuses). No condition but those written.
-/
import Derived.Test.YtkbdkeclbokhdaaDoorPackRead
namespace Go.Proofs.YtkbdkeclbokhdaaDoor
open Go Go.RowKit PackMath

def t65 (m : M) : M := { m with list := m.list.take 65 }
/-- Numbers as they are read. -/
structure Raw.NN (r : Raw) : Prop where
  kind : 0 ≤ r.kind
  who : 0 ≤ r.who
  height : 0 ≤ r.height
  round : 0 ≤ r.round
  valid : 0 ≤ r.valid
  num : 0 ≤ r.num
theorem putR_put {r : Raw} {m : M} (hm : r.m = t65 m) (hn : r.NN) (bs : List UInt8) (t : Nat) :
    (∀ c, put m bs t = .error c → putR r bs t = .error c) ∧ (∀ m', put m bs t = .ok m' → ∃ r', putR r bs t = .ok r' ∧ r'.m = t65 m' ∧ r'.NN) := by
  have e : r.m = ⟨r.kind.toNat, r.who.toNat, r.height.toNat, r.round.toNat, r.valid.toNat, r.num.toNat, id32 r.id, r.data, r.ids.map id32, r.list⟩ := rfl
  rw [e] at hm
  obtain ⟨k, a1, a2, a3, a4, a5, i, d, is, l⟩ := m
  simp only [t65, M.mk.injEq] at hm
  obtain ⟨q0, q1, q2, q3, q4, q5, q6, q7, q8, q9⟩ := hm
  obtain ⟨n0, n1, n2, n3, n4, n5⟩ := hn
  match t with
  | 0 => exact ⟨fun c h => by cases h; rfl, fun m' h => by cases h⟩
  | 1 =>
    cases hnum : number bs with
    | none => exact ⟨fun c h => by simp only [put, putR, hnum] at h ⊢; cases h; rfl, fun m' h => by simp [put, hnum] at h⟩
    | some n => exact ⟨fun c h => by simp [put, hnum] at h, fun m' h => by
        simp only [put, hnum] at h
        cases h
        exact ⟨{ r with who := (n : Int) }, by simp only [putR, hnum], by simp only [Raw.m, t65, M.mk.injEq]; exact ⟨q0, by omega, q2, q3, q4, q5, q6, q7, q8, q9⟩, n0, by show (0 : Int) ≤ n; omega, n2, n3, n4, n5⟩⟩
  | 2 =>
    cases hnum : number bs with
    | none => exact ⟨fun c h => by simp only [put, putR, hnum] at h ⊢; cases h; rfl, fun m' h => by simp [put, hnum] at h⟩
    | some n => exact ⟨fun c h => by simp [put, hnum] at h, fun m' h => by
        simp only [put, hnum] at h
        cases h
        exact ⟨{ r with height := (n : Int) }, by simp only [putR, hnum], by simp only [Raw.m, t65, M.mk.injEq]; exact ⟨q0, q1, by omega, q3, q4, q5, q6, q7, q8, q9⟩, n0, n1, by show (0 : Int) ≤ n; omega, n3, n4, n5⟩⟩
  | 3 =>
    cases hnum : number bs with
    | none => exact ⟨fun c h => by simp only [put, putR, hnum] at h ⊢; cases h; rfl, fun m' h => by simp [put, hnum] at h⟩
    | some n => exact ⟨fun c h => by simp [put, hnum] at h, fun m' h => by
        simp only [put, hnum] at h
        cases h
        exact ⟨{ r with round := (n : Int) }, by simp only [putR, hnum], by simp only [Raw.m, t65, M.mk.injEq]; exact ⟨q0, q1, q2, by omega, q4, q5, q6, q7, q8, q9⟩, n0, n1, n2, by show (0 : Int) ≤ n; omega, n4, n5⟩⟩
  | 4 =>
    cases hnum : number bs with
    | none => exact ⟨fun c h => by simp only [put, putR, hnum] at h ⊢; cases h; rfl, fun m' h => by simp [put, hnum] at h⟩
    | some n => exact ⟨fun c h => by simp [put, hnum] at h, fun m' h => by
        simp only [put, hnum] at h
        cases h
        exact ⟨{ r with valid := (n : Int) }, by simp only [putR, hnum], by simp only [Raw.m, t65, M.mk.injEq]; exact ⟨q0, q1, q2, q3, by omega, q5, q6, q7, q8, q9⟩, n0, n1, n2, n3, by show (0 : Int) ≤ n; omega, n5⟩⟩
  | 5 =>
    cases hnum : number bs with
    | none => exact ⟨fun c h => by simp only [put, putR, hnum] at h ⊢; cases h; rfl, fun m' h => by simp [put, hnum] at h⟩
    | some n => exact ⟨fun c h => by simp [put, hnum] at h, fun m' h => by
        simp only [put, hnum] at h
        cases h
        exact ⟨{ r with num := (n : Int) }, by simp only [putR, hnum], by simp only [Raw.m, t65, M.mk.injEq]; exact ⟨q0, q1, q2, q3, q4, by omega, q6, q7, q8, q9⟩, n0, n1, n2, n3, n4, by show (0 : Int) ≤ n; omega⟩⟩
  | 6 =>
    by_cases hz : bs.length ≠ 32 ∨ bs = zid
    · refine ⟨fun c h => ?_, fun m' h => ?_⟩
      · simp only [put, putR, if_pos hz] at h ⊢; cases h; rfl
      · simp only [put, if_pos hz] at h; cases h
    · refine ⟨fun c h => ?_, fun m' h => ?_⟩
      · simp only [put, if_neg hz] at h; cases h
      · simp only [put, if_neg hz] at h
        cases h
        have h32 : bs.length = 32 := Decidable.byContradiction fun h => hz (.inl h)
        exact ⟨{ r with id := fun i => bs.getD i 0 }, by simp only [putR, if_neg hz], by simp only [Raw.m, t65, M.mk.injEq]; exact ⟨q0, q1, q2, q3, q4, q5, id32_of bs h32, q7, q8, q9⟩, n0, n1, n2, n3, n4, n5⟩
  | 7 => exact ⟨fun c h => (by cases h), fun m' h => by
      cases h
      exact ⟨{ r with data := bs }, rfl, by simp only [Raw.m, t65, M.mk.injEq]; exact ⟨q0, q1, q2, q3, q4, q5, q6, trivial, q8, q9⟩, n0, n1, n2, n3, n4, n5⟩⟩
  | 8 =>
    by_cases hz : bs.length % 32 ≠ 0
    · refine ⟨fun c h => ?_, fun m' h => ?_⟩
      · simp only [put, putR, if_pos hz] at h ⊢; cases h; rfl
      · simp only [put, if_pos hz] at h; cases h
    · refine ⟨fun c h => ?_, fun m' h => ?_⟩
      · simp only [put, if_neg hz] at h; cases h
      · simp only [put, if_neg hz] at h
        cases h
        exact ⟨{ r with ids := idsOf bs }, by simp only [putR, if_neg hz], by simp only [Raw.m, t65, M.mk.injEq]; exact ⟨q0, q1, q2, q3, q4, q5, q6, q7, idsOf_cut bs (by omega), q9⟩, n0, n1, n2, n3, n4, n5⟩
  | 9 =>
    cases hr : runs bs with
    | none => exact ⟨fun c h => by simp only [put, putR, hr] at h ⊢; cases h; rfl, fun m' h => by simp [put, hr] at h⟩
    | some es => exact ⟨fun c h => by simp [put, hr] at h, fun m' h => by
        simp only [put, hr] at h
        cases h
        exact ⟨{ r with list := es.take 65 }, by simp only [putR, hr], by simp only [Raw.m, t65, M.mk.injEq]; exact ⟨q0, q1, q2, q3, q4, q5, q6, q7, q8, trivial⟩, n0, n1, n2, n3, n4, n5⟩⟩
  | t + 10 => exact ⟨fun c h => by cases h; rfl, fun m' h => by cases h⟩
theorem foldR_fields (s : List UInt8) : ∀ (last : Nat) (r : Raw) (m : M), r.m = t65 m → r.NN →
    (∀ c, fields last m s = .error c → foldR (last, r) (fsteps s) = .error c) ∧ (∀ m', fields last m s = .ok m' → ∃ l' r', foldR (last, r) (fsteps s) = .ok (l', r') ∧ r'.m = t65 m' ∧ r'.NN) := by
  generalize hn : s.length = n
  induction n using Nat.strongRecOn generalizing s with
  | _ n ih =>
    intro last r m hm hN
    cases s with
    | nil =>
      refine ⟨fun c h => ?_, fun m' h => ?_⟩
      · rw [fields] at h; cases h
      · rw [fields] at h
        cases h
        exact ⟨last, r, by rw [fsteps_nil]; rfl, hm, hN⟩
    | cons t s =>
      rw [fields]
      by_cases ht : t.toNat ≤ last ∨ 9 < t.toNat
      · rw [if_pos ht]
        refine ⟨fun c h => ?_, fun m' h => by cases h⟩
        cases h
        cases e : take3 s with
        | none => rw [fsteps_none e, foldR, stepR, if_pos ht]
        | some xr => obtain ⟨x, s'⟩ := xr; rw [fsteps_some e, foldR, stepR, if_pos ht]
      · rw [if_neg ht]
        split
        · rename_i e
          refine ⟨fun c h => ?_, fun m' h => by cases h⟩
          cases h
          rw [fsteps_none e, foldR, stepR, if_neg ht]
        · rename_i x s' e
          rw [fsteps_some e, foldR, stepR, if_neg ht]
          by_cases hx : x = []
          · rw [if_pos hx]
            refine ⟨fun c h => ?_, fun m' h => by cases h⟩
            cases h
            show (match (if x = [] then _ else _ : Except Nat (Nat × Raw)) with | .error e => _ | .ok s' => _) = _
            rw [if_pos hx]
          · rw [if_neg hx]
            obtain ⟨p1, p2⟩ := putR_put hm hN x t.toNat
            have hl := take3_short e
            simp only [List.length_cons] at hn
            cases hp : put m x t.toNat with
            | error c0 =>
              refine ⟨fun c h => ?_, fun m' h => by cases h⟩
              cases h
              show (match (if x = [] then _ else match putR r x t.toNat with | .error e => Except.error e | .ok r' => .ok (t.toNat, r') : Except Nat (Nat × Raw)) with | .error e => _ | .ok s' => _) = _
              rw [if_neg hx, p1 c0 hp]
            | ok m1 =>
              obtain ⟨r1, e1, h1, h2⟩ := p2 m1 hp
              obtain ⟨i1, i2⟩ := ih s'.length (by omega) s' rfl t.toNat r1 m1 h1 h2
              have hst : foldR (last, r) ((t.toNat, some x) :: fsteps s') = foldR (t.toNat, r1) (fsteps s') := by
                rw [foldR, stepR, if_neg ht]
                show (match (if x = [] then _ else match putR r x t.toNat with | .error e => Except.error e | .ok r' => .ok (t.toNat, r') : Except Nat (Nat × Raw)) with | .error e => _ | .ok s' => _) = _
                rw [if_neg hx, e1]
              rw [foldR, stepR, if_neg ht] at hst
              refine ⟨fun c h => ?_, fun m' h => ?_⟩
              · rw [hst]; exact i1 c h
              · rw [hst]; exact i2 m' h
theorem check_same {r : Raw} {m : M} (hm : r.m = t65 m) (hN : r.NN) : r.check = check m := by
  have e : r.m = ⟨r.kind.toNat, r.who.toNat, r.height.toNat, r.round.toNat, r.valid.toNat, r.num.toNat, id32 r.id, r.data, r.ids.map id32, r.list⟩ := rfl
  rw [e] at hm
  obtain ⟨k, a1, a2, a3, a4, a5, i, d, is, l⟩ := m
  simp only [t65, M.mk.injEq] at hm
  obtain ⟨q0, q1, q2, q3, q4, q5, q6, q7, q8, q9⟩ := hm
  obtain ⟨n0, n1, n2, n3, n4, n5⟩ := hN
  have hi : r.ids.length = is.length := by rw [← q8, List.length_map]
  have hl : r.list.length = min 65 l.length := by rw [q9, List.length_take]
  unfold Raw.check check
  simp only
  by_cases c1 : k < 1 ∨ 31 < k
  · rw [if_pos c1, if_pos (by omega)]
  · rw [if_neg c1, if_neg (by omega)]
    by_cases c2 : 1099511627776 < a1 ∨ 1099511627776 < a2 ∨ 1099511627776 < a3 ∨ 1099511627776 < a4 ∨ 1099511627776 < a5
    · rw [if_pos c2, if_pos (by omega)]
    · rw [if_neg c2, if_neg (by omega)]
      by_cases c3 : 64 < is.length ∨ 64 < l.length
      · rw [if_pos c3, if_pos (by omega)]
      · rw [if_neg c3, if_neg (by omega), q7, q9, List.take_of_length_le (by omega)]
theorem readP_readM (b : List UInt8) : (∀ c, readM b = .error c → readP b = .error c) ∧ (∀ m, readM b = .ok m → ∃ r, readP b = .ok r ∧ r.m = m ∧ r.NN) := by
  cases b with
  | nil => exact ⟨fun c h => by cases h; rfl, fun m h => by cases h⟩
  | cons k s =>
    have eP : readP (k :: s) = if k.toNat < 1 ∨ 31 < k.toNat then .error 21 else match foldR (0, zeroRaw (k.toNat : Int)) (fsteps s) with
      | .error e => .error e
      | .ok (_, r) => if r.check = 0 then .ok r else .error r.check := rfl
    have eM : readM (k :: s) = if k.toNat < 1 ∨ 31 < k.toNat then .error 21 else match fields 0 (M.zero k.toNat) s with
      | .error e => .error e
      | .ok m => if check m = 0 then .ok m else .error (check m) := rfl
    rw [eP, eM]
    by_cases hk : k.toNat < 1 ∨ 31 < k.toNat
    · rw [if_pos hk, if_pos hk]
      exact ⟨fun c h => by cases h; rfl, fun m h => by cases h⟩
    · rw [if_neg hk, if_neg hk]
      have hz : (zeroRaw (k.toNat : Int)).m = t65 (M.zero k.toNat) := by
        simp only [Raw.m, zeroRaw, t65, M.zero, id32_zero]
        simp
      have hN : (zeroRaw (k.toNat : Int)).NN := ⟨by show (0 : Int) ≤ k.toNat; omega, Int.le_refl _, Int.le_refl _, Int.le_refl _, Int.le_refl _, Int.le_refl _⟩
      obtain ⟨f1, f2⟩ := foldR_fields s 0 _ _ hz hN
      cases hf : fields 0 (M.zero k.toNat) s with
      | error c0 =>
        rw [f1 c0 hf]
        exact ⟨fun c h => by cases h; rfl, fun m h => by cases h⟩
      | ok m1 =>
        obtain ⟨l', r', e1, h1, h2⟩ := f2 m1 hf
        rw [e1]
        have hc := check_same h1 h2
        show (∀ c, (if check m1 = 0 then Except.ok m1 else .error (check m1)) = .error c → (if r'.check = 0 then Except.ok r' else .error r'.check) = .error c) ∧ (∀ m, (if check m1 = 0 then Except.ok m1 else .error (check m1)) = .ok m → ∃ r, (if r'.check = 0 then Except.ok r' else .error r'.check) = .ok r ∧ r.m = m ∧ r.NN)
        rw [hc]
        by_cases h0 : check m1 = 0
        · rw [if_pos h0, if_pos h0]
          refine ⟨fun c h => (by cases h), fun m h => ?_⟩
          cases h
          refine ⟨r', rfl, ?_, h2⟩
          have hl : m1.list.length ≤ 64 := by
            unfold check at h0
            split at h0
            · cases h0
            · split at h0
              · cases h0
              · split at h0
                · cases h0
                · omega
          rw [h1, t65, List.take_of_length_le (by omega)]
        · rw [if_neg h0, if_neg h0]
          exact ⟨fun c h => by cases h; rfl, fun m h => by cases h⟩
/-- What is written is read as it was. -/
theorem readP_write {r : Raw} (hf : r.Fit) : ∃ r', readP (writeM r.m) = .ok r' ∧ r'.m = r.m ∧ r'.NN := (readP_readM _).2 _ (read_write hf.ok)
end Go.Proofs.YtkbdkeclbokhdaaDoor
