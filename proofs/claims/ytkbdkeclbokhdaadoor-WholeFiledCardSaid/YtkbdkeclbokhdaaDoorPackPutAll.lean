/-
  pack.put for every tag; what fields mean, one behind the other.
-/
import Derived.Test.YtkbdkeclbokhdaaDoorPackPut
namespace Go.Proofs.YtkbdkeclbokhdaaDoor
open Go Go.RowKit PackMath

/-- A field put into a message: the message, or the error's number. Entries of List are kept up to one too many. -/
def putR (r : Raw) (bs : List UInt8) : Nat → Except Nat Raw
  | 1 => match number bs with | some n => .ok { r with who := (n : Int) } | none => .error 23
  | 2 => match number bs with | some n => .ok { r with height := (n : Int) } | none => .error 23
  | 3 => match number bs with | some n => .ok { r with round := (n : Int) } | none => .error 23
  | 4 => match number bs with | some n => .ok { r with valid := (n : Int) } | none => .error 23
  | 5 => match number bs with | some n => .ok { r with num := (n : Int) } | none => .error 23
  | 6 => if bs.length ≠ 32 ∨ bs = zid then .error 23 else .ok { r with id := fun i => bs.getD i 0 }
  | 7 => .ok { r with data := bs }
  | 8 => if bs.length % 32 ≠ 0 then .error 23 else .ok { r with ids := idsOf bs }
  | 9 => match runs bs with | some l => .ok { r with list := l.take 65 } | none => .error 20
  | _ => .error 21
def stepR (s : Nat × Raw) (x : Nat × Option (List UInt8)) : Except Nat (Nat × Raw) :=
  if x.1 ≤ s.1 ∨ 9 < x.1 then .error 21 else match x.2 with
  | none => .error 20
  | some bs => if bs = [] then .error 23 else match putR s.2 bs x.1 with
    | .error e => .error e
    | .ok r => .ok (x.1, r)
def foldR (s : Nat × Raw) : List (Nat × Option (List UInt8)) → Except Nat (Nat × Raw)
  | [] => .ok s
  | x :: xs => match stepR s x with
    | .error e => .error e
    | .ok s' => foldR s' xs
theorem foldR_append (s : Nat × Raw) (xs ys : List (Nat × Option (List UInt8))) : foldR s (xs ++ ys) = match foldR s xs with
    | .error e => .error e
    | .ok s' => foldR s' ys := by
  induction xs generalizing s with
  | nil => rfl
  | cons x xs ih =>
    rw [List.cons_append, foldR, foldR]
    cases stepR s x with
    | error e => rfl
    | ok s' => exact ih s'
theorem foldR_snoc {s s' : Nat × Raw} {xs : List (Nat × Option (List UInt8))} (h : foldR s xs = .ok s') (x : Nat × Option (List UInt8)) : foldR s (xs ++ [x]) = stepR s' x := by
  rw [foldR_append, h]
  show foldR s' [x] = stepR s' x
  rw [foldR]
  cases stepR s' x <;> rfl
theorem foldR_prefix {s : Nat × Raw} {xs ys : List (Nat × Option (List UInt8))} {c : Nat} (h : foldR s xs = .error c) (hp : xs <+: ys) : foldR s ys = .error c := by
  obtain ⟨t, rfl⟩ := hp
  rw [foldR_append, h]
theorem take3_len {s x r : List UInt8} (h : take3 s = some (x, r)) : x.length < 16777216 := by
  match s, h with
  | a :: b :: c :: s, h =>
    have ha := a.toNat_lt; have hb := b.toNat_lt; have hc := c.toNat_lt
    simp only [take3] at h
    split at h
    · injection h with h
      injection h with h1 h2
      subst h1
      rw [List.length_take]
      omega
    · cases h
theorem fsteps_len (s : List UInt8) : ∀ t bs, (t, some bs) ∈ fsteps s → bs.length < 16777216 := by
  generalize hn : s.length = n
  induction n using Nat.strongRecOn generalizing s with
  | _ n ih =>
    intro t bs hm
    cases s with
    | nil => rw [fsteps_nil] at hm; cases hm
    | cons t0 r =>
      cases e : take3 r with
      | none => rw [fsteps_none e] at hm; simp at hm
      | some xr =>
        obtain ⟨x, r'⟩ := xr
        rw [fsteps_some e, List.mem_cons] at hm
        rcases hm with hm | hm
        · injection hm with _ hm
          injection hm with hm
          rw [hm]
          exact take3_len e
        · exact ih r'.length (by have := take3_short e; simp at hn; omega) r' rfl t bs hm
/-- A message in its variable. -/
def MsgAt (W : World) (g : Nat) (ok : Nat → Prop) (r : Raw) : Prop := ∃ d i l, Blk W g 69 (msgA r d i l) ∧ RdR W ok r d i l
theorem RdB.there {W : World} {ok : Nat → Prop} {v : Value} {bs : List UInt8} (h : RdB W ok v bs) : RdB W (fun b => ok b ∧ ∃ x, W.heap[b]? = some x ∧ x.isCells = true) v bs := by
  obtain ⟨A, c, rfl, _⟩ := id h
  exact h.lies.mono fun b hb => ⟨hb.1, hb.2.2⟩
theorem RdI.there {W : World} {ok : Nat → Prop} {A : Option Addr} {ps : List (Nat → UInt8)} (h : RdI W ok A ps) : RdI W (fun b => ok b ∧ ∃ x, W.heap[b]? = some x ∧ x.isCells = true) A ps := fun k hlt => by
  obtain ⟨ad, hA, hok, hc⟩ := h k hlt
  refine ⟨ad, hA, ⟨hok, ?_⟩, hc⟩
  obtain ⟨o, ho, hoc⟩ := cells_of_cell (hc 0 (by omega))
  rw [block_add] at ho
  exact ⟨o, ho, hoc⟩
theorem RdP.there {W : World} {ok : Nat → Prop} {A : Option Addr} {ps : List (List UInt8)} (h : RdP W ok A ps) : RdP W (fun b => ok b ∧ ∃ x, W.heap[b]? = some x ∧ x.isCells = true) A ps := fun k hlt => by
  obtain ⟨ad, v, hA, hok, hc, hr⟩ := h k hlt
  refine ⟨ad, v, hA, ⟨hok, ?_⟩, hc, hr.there⟩
  obtain ⟨o, ho, hoc⟩ := cells_of_cell hc
  rw [block_add] at ho
  exact ⟨o, ho, hoc⟩
theorem RdR.there {W : World} {ok : Nat → Prop} {r : Raw} {d i l : Value} (h : RdR W ok r d i l) : RdR W (fun b => ok b ∧ ∃ x, W.heap[b]? = some x ∧ x.isCells = true) r d i l := by
  obtain ⟨h1, ⟨A, c, e1, e2, e3⟩, ⟨A', c', f1, f2, f3⟩⟩ := h
  exact ⟨h1.there, ⟨A, c, e1, e2, e3.there⟩, ⟨A', c', f1, f2, f3.there⟩⟩
/-- What put leaves. -/
def PutOut (w : World) (g : Nat) (own : Nat → Prop) (r : Raw) (bs : List UInt8) (t : Nat) (e : Ending) (w' : World) : Prop :=
  match putR r bs t with
  | .error c => e = .returned (.int .i64 (c : Int)) ∧ c ≠ 0
  | .ok r' => e = .returned (.int .i64 0) ∧ MsgAt w' g (fun b => own b ∨ fresh w w' b) r'
set_option maxHeartbeats 2000000 in
theorem put_any (g : Nat) (r : Raw) (own : Nat → Prop) (A : Option Addr) (c : Nat) (bs : List UInt8) (hne : bs ≠ []) (hlen : bs.length < 16777216) (t : Nat) (ht1 : 1 ≤ t) (ht9 : t ≤ 9) (w : World) (hm : MsgAt w g own r) (ho : ∀ b, own b → b < w.heap.size ∧ b ≠ g)
    (hr : RdB w (fun b => b < w.heap.size) (.slice A bs.length c) bs) :
    CallsIn Fence.wide 0 Tryd.prog 68 #[.pointer (some ⟨g, 0, none⟩), .agg #[.int .i64 (t : Int), .slice A bs.length c, .bool true]] w fun e w' => w.grownBy w' (some g) ∧ PutOut w g own r bs t e w' := by
  obtain ⟨d, i, l, hg, hR⟩ := hm
  have keep : ∀ {w' : World}, w.grownBy w' (some g) → RdR w' (fun b => own b ∨ fresh w w' b) r d i l := fun {w'} h => (hR.kept (W' := w') fun a x ha hx => h.cell hx fun e => (ho _ ha).2 (Option.some.inj e)).mono fun b hb => .inl hb
  unfold PutOut
  have hs : t = 1 ∨ t = 2 ∨ t = 3 ∨ t = 4 ∨ t = 5 ∨ t = 6 ∨ t = 7 ∨ t = 8 ∨ t = 9 := by omega
  rcases hs with rfl | rfl | rfl | rfl | rfl | rfl | rfl | rfl | rfl
  · refine (put_1 g (msgF r d i l) A c bs hne w hg hr).mono ?_
    rintro e w' ⟨hG, h1, h2⟩
    refine ⟨hG, ?_⟩
    show match (match number bs with | some n => Except.ok { r with who := (n : Int) } | none => .error 23 : Except Nat Raw) with | .error c => _ | .ok r' => _
    cases hnum : number bs with
    | none => exact ⟨h1 hnum, by omega⟩
    | some n =>
      obtain ⟨h3, h4⟩ := h2 n hnum
      obtain ⟨q1, q2, q3⟩ := keep hG
      refine ⟨h3, d, i, l, h4.same (arr_congr fun j hj => ?_), q1, q2, q3⟩
      match j with
      | 0 => rfl
      | 1 => rfl
      | 2 => rfl
      | 3 => rfl
      | 4 => rfl
      | 5 => rfl
      | m + 6 => rfl
  · refine (put_2 g (msgF r d i l) A c bs hne w hg hr).mono ?_
    rintro e w' ⟨hG, h1, h2⟩
    refine ⟨hG, ?_⟩
    show match (match number bs with | some n => Except.ok { r with height := (n : Int) } | none => .error 23 : Except Nat Raw) with | .error c => _ | .ok r' => _
    cases hnum : number bs with
    | none => exact ⟨h1 hnum, by omega⟩
    | some n =>
      obtain ⟨h3, h4⟩ := h2 n hnum
      obtain ⟨q1, q2, q3⟩ := keep hG
      refine ⟨h3, d, i, l, h4.same (arr_congr fun j hj => ?_), q1, q2, q3⟩
      match j with
      | 0 => rfl
      | 1 => rfl
      | 2 => rfl
      | 3 => rfl
      | 4 => rfl
      | 5 => rfl
      | m + 6 => rfl
  · refine (put_3 g (msgF r d i l) A c bs hne w hg hr).mono ?_
    rintro e w' ⟨hG, h1, h2⟩
    refine ⟨hG, ?_⟩
    show match (match number bs with | some n => Except.ok { r with round := (n : Int) } | none => .error 23 : Except Nat Raw) with | .error c => _ | .ok r' => _
    cases hnum : number bs with
    | none => exact ⟨h1 hnum, by omega⟩
    | some n =>
      obtain ⟨h3, h4⟩ := h2 n hnum
      obtain ⟨q1, q2, q3⟩ := keep hG
      refine ⟨h3, d, i, l, h4.same (arr_congr fun j hj => ?_), q1, q2, q3⟩
      match j with
      | 0 => rfl
      | 1 => rfl
      | 2 => rfl
      | 3 => rfl
      | 4 => rfl
      | 5 => rfl
      | m + 6 => rfl
  · refine (put_4 g (msgF r d i l) A c bs hne w hg hr).mono ?_
    rintro e w' ⟨hG, h1, h2⟩
    refine ⟨hG, ?_⟩
    show match (match number bs with | some n => Except.ok { r with valid := (n : Int) } | none => .error 23 : Except Nat Raw) with | .error c => _ | .ok r' => _
    cases hnum : number bs with
    | none => exact ⟨h1 hnum, by omega⟩
    | some n =>
      obtain ⟨h3, h4⟩ := h2 n hnum
      obtain ⟨q1, q2, q3⟩ := keep hG
      refine ⟨h3, d, i, l, h4.same (arr_congr fun j hj => ?_), q1, q2, q3⟩
      match j with
      | 0 => rfl
      | 1 => rfl
      | 2 => rfl
      | 3 => rfl
      | 4 => rfl
      | 5 => rfl
      | m + 6 => rfl
  · refine (put_5 g (msgF r d i l) A c bs hne w hg hr).mono ?_
    rintro e w' ⟨hG, h1, h2⟩
    refine ⟨hG, ?_⟩
    show match (match number bs with | some n => Except.ok { r with num := (n : Int) } | none => .error 23 : Except Nat Raw) with | .error c => _ | .ok r' => _
    cases hnum : number bs with
    | none => exact ⟨h1 hnum, by omega⟩
    | some n =>
      obtain ⟨h3, h4⟩ := h2 n hnum
      obtain ⟨q1, q2, q3⟩ := keep hG
      refine ⟨h3, d, i, l, h4.same (arr_congr fun j hj => ?_), q1, q2, q3⟩
      match j with
      | 0 => rfl
      | 1 => rfl
      | 2 => rfl
      | 3 => rfl
      | 4 => rfl
      | 5 => rfl
      | m + 6 => rfl
  · refine (put_6 g (msgF r d i l) A c bs w hg hr).mono ?_
    rintro e w' ⟨hG, h1, h2⟩
    refine ⟨hG, ?_⟩
    show match (if bs.length ≠ 32 ∨ bs = zid then Except.error 23 else .ok { r with id := fun i => bs.getD i 0 } : Except Nat Raw) with | .error c => _ | .ok r' => _
    by_cases hz : bs.length ≠ 32 ∨ bs = zid
    · rw [if_pos hz]
      exact ⟨h1 hz, by omega⟩
    · rw [if_neg hz]
      obtain ⟨h3, h4⟩ := h2 hz
      obtain ⟨q1, q2, q3⟩ := keep hG
      refine ⟨h3, d, i, l, h4.same (arr_congr fun j hj => ?_), q1, q2, q3⟩
      by_cases h : 6 ≤ j ∧ j < 6 + 32
      · rw [if_pos h]
        obtain ⟨m, hm⟩ := Nat.exists_eq_add_of_le' h.1
        subst hm
        show _ = if m + 6 < 38 then _ else _
        rw [if_pos h.2]
      · rw [if_neg h]
        match j, h with
        | 0, _ => rfl
        | 1, _ => rfl
        | 2, _ => rfl
        | 3, _ => rfl
        | 4, _ => rfl
        | 5, _ => rfl
        | m + 6, h =>
          have hn : ¬ (m + 6 < 38) := by omega
          show (if m + 6 < 38 then _ else if m + 6 = 38 then _ else if m + 6 = 39 then _ else _) = if m + 6 < 38 then _ else if m + 6 = 38 then _ else if m + 6 = 39 then _ else _
          rw [if_neg hn, if_neg hn]
  · refine (put_7 g (msgF r d i l) A c bs w hg hr).mono ?_
    rintro e w' ⟨hG, h1, A', c', h2, h3⟩
    obtain ⟨q1, q2, q3⟩ := keep hG
    refine ⟨hG, h1, _, i, l, h2.same (arr_congr fun j hj => ?_), h3.mono fun b hb => .inr hb, q2, q3⟩
    match j, hj with
    | 0, _ => rfl
    | 1, _ => rfl
    | 2, _ => rfl
    | 3, _ => rfl
    | 4, _ => rfl
    | 5, _ => rfl
    | m + 6, hj =>
      show (if m + 6 = 38 then _ else if m + 6 < 38 then _ else if m + 6 = 38 then _ else if m + 6 = 39 then _ else _) = if m + 6 < 38 then _ else if m + 6 = 38 then _ else if m + 6 = 39 then _ else _
      by_cases e : m + 6 = 38
      · rw [if_pos e, if_neg (by omega), if_pos e]
      · rw [if_neg e]
        by_cases e1 : m + 6 < 38
        · rw [if_pos e1, if_pos e1]
        · rw [if_neg e1, if_neg e1]
          rw [if_neg e, if_neg e]
  · refine (put_8 g (msgF r d i l) A c bs hlen w hg hr).mono ?_
    rintro e w' ⟨hG, h1, h2⟩
    refine ⟨hG, ?_⟩
    show match (if bs.length % 32 ≠ 0 then Except.error 23 else .ok { r with ids := idsOf bs } : Except Nat Raw) with | .error c => _ | .ok r' => _
    by_cases hz : bs.length % 32 ≠ 0
    · rw [if_pos hz]
      exact ⟨h1 hz, by omega⟩
    · rw [if_neg hz]
      obtain ⟨h3, g', h4, h5⟩ := h2 (by omega)
      obtain ⟨q1, q2, q3⟩ := keep hG
      refine ⟨h3, d, .slice (some ⟨g', 0, none⟩) (bs.length / 32) (bs.length / 32), l, h4.same (arr_congr fun j hj => ?_), q1, ⟨some ⟨g', 0, none⟩, bs.length / 32, by rw [idsOf_length], by rw [idsOf_length]; omega, h5.mono fun b hb => .inr hb⟩, q3⟩
      match j, hj with
      | 0, _ => rfl
      | 1, _ => rfl
      | 2, _ => rfl
      | 3, _ => rfl
      | 4, _ => rfl
      | 5, _ => rfl
      | m + 6, hj =>
        show (if m + 6 = 39 then _ else if m + 6 < 38 then _ else if m + 6 = 38 then _ else if m + 6 = 39 then _ else _) = if m + 6 < 38 then _ else if m + 6 = 38 then _ else if m + 6 = 39 then _ else _
        by_cases e : m + 6 = 39
        · rw [if_pos e, if_neg (by omega), if_neg (by omega), if_pos e]
        · rw [if_neg e]
          by_cases e1 : m + 6 < 38
          · rw [if_pos e1, if_pos e1]
          · rw [if_neg e1, if_neg e1]
            by_cases e2 : m + 6 = 38
            · rw [if_pos e2, if_pos e2]
            · rw [if_neg e2, if_neg e2, if_neg e, if_neg e]
  · refine (put_9 g (msgF r d i l) A c bs w hg hr).mono ?_
    rintro e w' ⟨hG, h1, h2⟩
    refine ⟨hG, ?_⟩
    show match (match runs bs with | some l => Except.ok { r with list := l.take 65 } | none => .error 20 : Except Nat Raw) with | .error c => _ | .ok r' => _
    cases hru : runs bs with
    | none => exact ⟨h1 hru, by omega⟩
    | some es =>
      obtain ⟨h3, A', n, c', h4, h5, h6⟩ := h2 es hru
      obtain ⟨q1, q2, q3⟩ := keep hG
      refine ⟨h3, d, i, .slice A' n c', h5.same (arr_congr fun j hj => ?_), q1, q2, ⟨A', c', by rw [h4], by rw [List.length_take]; omega, h6.mono fun b hb => .inr hb⟩⟩
      match j, hj with
      | 0, _ => rfl
      | 1, _ => rfl
      | 2, _ => rfl
      | 3, _ => rfl
      | 4, _ => rfl
      | 5, _ => rfl
      | m + 6, hj =>
        show (if m + 6 = 40 then _ else if m + 6 < 38 then _ else if m + 6 = 38 then _ else if m + 6 = 39 then _ else _) = if m + 6 < 38 then _ else if m + 6 = 38 then _ else if m + 6 = 39 then _ else _
        by_cases e : m + 6 = 40
        · rw [if_pos e, if_neg (by omega), if_neg (by omega), if_neg (by omega)]
        · rw [if_neg e]
          by_cases e1 : m + 6 < 38
          · rw [if_pos e1, if_pos e1]
          · rw [if_neg e1, if_neg e1]
            by_cases e2 : m + 6 = 38
            · rw [if_pos e2, if_pos e2]
            · rw [if_neg e2, if_neg e2, if_pos (by omega), if_pos (by omega)]
end Go.Proofs.YtkbdkeclbokhdaaDoor
