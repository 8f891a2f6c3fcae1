/-
  Plain mathematics for the messages' bytes: numbers as digits of 256 without a leading zero, runs with three bytes of length ahead; nothing here speaks of the program. No conditions but those written.
-/

namespace Go.Proofs.YtkbdkeclbokhdaaDoor.PackMath

/-- A number's bytes: none for zero, no zero ahead. -/
def digits (n : Nat) : List UInt8 := if _h : n = 0 then [] else digits (n / 256) ++ [UInt8.ofNat n]
termination_by n
decreasing_by omega
/-- The number of bytes. -/
def num (s : List UInt8) : Nat := s.foldl (fun a d => a * 256 + d.toNat) 0
theorem digits_zero : digits 0 = [] := by rw [digits]; simp
theorem digits_pos {n : Nat} (h : 0 < n) : digits n = digits (n / 256) ++ [UInt8.ofNat n] := by
  rw [digits]
  simp [show n ≠ 0 by omega]
theorem num_snoc (s : List UInt8) (d : UInt8) : num (s ++ [d]) = num s * 256 + d.toNat := by simp [num]
theorem num_digits (n : Nat) : num (digits n) = n := by
  induction n using Nat.strongRecOn with
  | _ n ih =>
    by_cases h : n = 0
    · subst h; rw [digits_zero]; rfl
    · rw [digits_pos (by omega), num_snoc, ih _ (by omega), UInt8.toNat_ofNat']
      omega
theorem digits_length (k n : Nat) (h : n < 256 ^ k) : (digits n).length ≤ k := by
  induction k generalizing n with
  | zero => rw [show n = 0 by simpa using h, digits_zero]; simp
  | succ k ih =>
    by_cases h0 : n = 0
    · subst h0; rw [digits_zero]; simp
    · rw [digits_pos (by omega), List.length_append]
      have := ih (n / 256) (Nat.div_lt_of_lt_mul (by rw [Nat.pow_succ] at h; omega))
      simp
      omega
theorem digits_nil {n : Nat} : digits n = [] ↔ n = 0 := by
  refine ⟨fun h => ?_, fun h => by rw [h, digits_zero]⟩
  have := num_digits n
  rw [h] at this
  exact this.symm
theorem digits_head {n : Nat} (h : 0 < n) : ∃ d s, digits n = d :: s ∧ d ≠ 0 := by
  induction n using Nat.strongRecOn with
  | _ n ih =>
    rw [digits_pos h]
    by_cases hq : n / 256 = 0
    · refine ⟨UInt8.ofNat n, [], by rw [hq, digits_zero]; rfl, fun e => ?_⟩
      have := congrArg UInt8.toNat e
      rw [UInt8.toNat_ofNat'] at this
      simp at this
      omega
    · obtain ⟨d, s, e, hd⟩ := ih (n / 256) (by omega) (by omega)
      exact ⟨d, s ++ [UInt8.ofNat n], by rw [e]; rfl, hd⟩
/-! ### Runs -/
def len3P (n : Nat) : List UInt8 := [UInt8.ofNat (n / 65536), UInt8.ofNat (n / 256), UInt8.ofNat n]
def run (b : List UInt8) : List UInt8 := len3P b.length ++ b
/-- The run ahead, and what is behind it. -/
def take3 : List UInt8 → Option (List UInt8 × List UInt8)
  | a :: b :: c :: s => if a.toNat * 65536 + b.toNat * 256 + c.toNat ≤ s.length then some (s.take (a.toNat * 65536 + b.toNat * 256 + c.toNat), s.drop (a.toNat * 65536 + b.toNat * 256 + c.toNat)) else none
  | _ => none
theorem take3_run (b s : List UInt8) (h : b.length < 16777216) : take3 (run b ++ s) = some (b, s) := by
  have e : (UInt8.ofNat (b.length / 65536)).toNat * 65536 + (UInt8.ofNat (b.length / 256)).toNat * 256 + (UInt8.ofNat b.length).toNat = b.length := by
    rw [UInt8.toNat_ofNat', UInt8.toNat_ofNat', UInt8.toNat_ofNat']
    omega
  simp only [run, len3P, List.cons_append, List.nil_append, take3, e]
  rw [if_pos (by simp)]
  simp
theorem run_take3 {s b t : List UInt8} (h : take3 s = some (b, t)) : s = run b ++ t := by
  match s, h with
  | a :: b' :: c :: s, h =>
    have ha := a.toNat_lt; have hb := b'.toNat_lt; have hc := c.toNat_lt
    simp only [take3] at h
    split at h
    · rename_i hle
      injection h with h
      injection h with h1 h2
      subst h1; subst h2
      have hl : (s.take (a.toNat * 65536 + b'.toNat * 256 + c.toNat)).length = a.toNat * 65536 + b'.toNat * 256 + c.toNat := by rw [List.length_take]; omega
      simp only [run, len3P, hl]
      have e1 : UInt8.ofNat ((a.toNat * 65536 + b'.toNat * 256 + c.toNat) / 65536) = a := UInt8.toNat_inj.1 (by rw [UInt8.toNat_ofNat']; omega)
      have e2 : UInt8.ofNat ((a.toNat * 65536 + b'.toNat * 256 + c.toNat) / 256) = b' := UInt8.toNat_inj.1 (by rw [UInt8.toNat_ofNat']; omega)
      have e3 : UInt8.ofNat (a.toNat * 65536 + b'.toNat * 256 + c.toNat) = c := UInt8.toNat_inj.1 (by rw [UInt8.toNat_ofNat']; omega)
      rw [e1, e2, e3]
      simp
    · cases h

/-! ### Messages -/
structure M where
  kind : Nat
  who : Nat
  height : Nat
  round : Nat
  valid : Nat
  num : Nat
  id : List UInt8
  data : List UInt8
  ids : List (List UInt8)
  list : List (List UInt8)
def zid : List UInt8 := List.replicate 32 0
/-- A message of a kind and nothing else. -/
def M.zero (k : Nat) : M := ⟨k, 0, 0, 0, 0, 0, zid, [], [], []⟩
def idPart (i : List UInt8) : List UInt8 := if i = zid then [] else i
def parts (m : M) : List (List UInt8) := [digits m.who, digits m.height, digits m.round, digits m.valid, digits m.num, idPart m.id, m.data, m.ids.flatten, (m.list.map run).flatten]
/-- The fields that are not empty, from a tag on. -/
def body : Nat → List (List UInt8) → List UInt8
  | _, [] => []
  | k, p :: ps => (if p = [] then [] else UInt8.ofNat k :: run p) ++ body (k + 1) ps
def writeM (m : M) : List UInt8 := UInt8.ofNat m.kind :: body 1 (parts m)
/-- What a message that may be written keeps. -/
structure Ok (m : M) : Prop where
  kind1 : 1 ≤ m.kind
  kind2 : m.kind ≤ 31
  who : m.who ≤ 1099511627776
  height : m.height ≤ 1099511627776
  round : m.round ≤ 1099511627776
  valid : m.valid ≤ 1099511627776
  num : m.num ≤ 1099511627776
  id : m.id.length = 32
  ids : m.ids.length ≤ 64
  ids32 : ∀ i ∈ m.ids, i.length = 32
  list : m.list.length ≤ 64
  size : m.data.length + (m.list.map List.length).sum ≤ 131072

/-! ### Reading -/
def number (s : List UInt8) : Option Nat := match s with
  | [] => none
  | d :: _ => if d = 0 ∨ 6 < s.length ∨ 1099511627776 < num s then none else some (num s)
/-- Cut in pieces of thirty-two. -/
def cut32 (s : List UInt8) : List (List UInt8) := if _h : s = [] then [] else s.take 32 :: cut32 (s.drop 32)
termination_by s.length
decreasing_by
  have := List.length_pos_iff.2 _h
  simp; omega
theorem take3_short {s b t : List UInt8} (h : take3 s = some (b, t)) : t.length < s.length := by
  rw [run_take3 h]
  simp [run, len3P]
  omega
/-- Runs, one behind the other. -/
def runs (s : List UInt8) : Option (List (List UInt8)) := if _h : s = [] then some [] else match _e : take3 s with
  | none => none
  | some (b, t) => (runs t).map (b :: ·)
termination_by s.length
decreasing_by exact take3_short _e

theorem number_digits {n : Nat} (h0 : 0 < n) (h : n ≤ 1099511627776) : number (digits n) = some n := by
  obtain ⟨d, s, e, hd⟩ := digits_head h0
  have hn := num_digits n
  have hl := digits_length 6 n (by omega)
  rw [e] at hn hl ⊢
  simp only [number]
  rw [if_neg (by simp only [hd, hn, false_or]; omega), hn]
theorem cut32_of (ps : List (List UInt8)) (h : ∀ p ∈ ps, p.length = 32) : cut32 ps.flatten = ps := by
  induction ps with
  | nil => rw [cut32]; simp
  | cons p ps ih =>
    have hp := h p (by simp)
    have h0 : (p :: ps).flatten ≠ [] := fun e => by
      have := congrArg List.length e
      rw [List.flatten_cons, List.length_append, List.length_nil] at this
      omega
    rw [cut32, dif_neg h0]
    rw [List.flatten_cons, ← hp, List.take_left, List.drop_left, ih fun q hq => h q (by simp [hq])]
theorem runs_of (ps : List (List UInt8)) (h : ∀ p ∈ ps, p.length < 16777216) : runs (ps.map run).flatten = some ps := by
  induction ps with
  | nil => rw [runs]; simp
  | cons p ps ih =>
    rw [runs, dif_neg (by simp [run, len3P]), List.map_cons, List.flatten_cons]
    split
    · rename_i e; rw [take3_run _ _ (h p (by simp))] at e; cases e
    · rename_i b t e
      rw [take3_run _ _ (h p (by simp))] at e
      injection e with e
      injection e with e1 e2
      subst e1; subst e2
      rw [ih fun q hq => h q (by simp [hq])]
      rfl
/-- A field put into a message: the message, or the error's number. -/
def put (m : M) (s : List UInt8) : Nat → Except Nat M
  | 1 => match number s with | some n => .ok { m with who := n } | none => .error 23
  | 2 => match number s with | some n => .ok { m with height := n } | none => .error 23
  | 3 => match number s with | some n => .ok { m with round := n } | none => .error 23
  | 4 => match number s with | some n => .ok { m with valid := n } | none => .error 23
  | 5 => match number s with | some n => .ok { m with num := n } | none => .error 23
  | 6 => if s.length ≠ 32 ∨ s = zid then .error 23 else .ok { m with id := s }
  | 7 => .ok { m with data := s }
  | 8 => if s.length % 32 ≠ 0 then .error 23 else .ok { m with ids := cut32 s }
  | 9 => match runs s with | some l => .ok { m with list := l } | none => .error 20
  | _ => .error 21
def fields (last : Nat) (m : M) (s : List UInt8) : Except Nat M :=
  match s with
  | [] => .ok m
  | t :: r => if t.toNat ≤ last ∨ 9 < t.toNat then .error 21 else
    match _e : take3 r with
    | none => .error 20
    | some (x, r') => if x = [] then .error 23 else
      match put m x t.toNat with
      | .error e => .error e
      | .ok m' => fields t.toNat m' r'
termination_by s.length
decreasing_by
  have := take3_short _e
  simp; omega
theorem parts_length (m : M) : (parts m).length = 9 := rfl
/-- The first k fields of a message. -/
def trunc (m : M) (k : Nat) : M :=
  ⟨m.kind, if 0 < k then m.who else 0, if 1 < k then m.height else 0, if 2 < k then m.round else 0, if 3 < k then m.valid else 0, if 4 < k then m.num else 0, if 5 < k then m.id else zid, if 6 < k then m.data else [], if 7 < k then m.ids else [], if 8 < k then m.list else []⟩
theorem sum_le (ps : List (List UInt8)) : ∀ p ∈ ps, p.length ≤ (ps.map List.length).sum := fun p hp => by
  induction ps with
  | nil => cases hp
  | cons q qs ih =>
    rcases List.mem_cons.1 hp with rfl | hp
    · simp
    · have := ih hp
      simp
      omega
theorem runs_length (ps : List (List UInt8)) : (ps.map run).flatten.length = 3 * ps.length + (ps.map List.length).sum := by
  induction ps with
  | nil => rfl
  | cons p ps ih => simp only [List.map_cons, List.flatten_cons, List.length_append, ih, List.sum_cons, List.length_cons]; simp [run, len3P]; omega
theorem flatten32 (ps : List (List UInt8)) (h : ∀ p ∈ ps, p.length = 32) : ps.flatten.length = 32 * ps.length := by
  induction ps with
  | nil => rfl
  | cons p ps ih =>
    have := h p (by simp)
    rw [List.flatten_cons, List.length_append, ih fun q hq => h q (by simp [hq]), List.length_cons]
    omega
theorem idPart_length {i : List UInt8} (h : i.length = 32) : (idPart i).length ≤ 32 := by
  unfold idPart
  split <;> simp [h]
theorem parts_short {m : M} (h : Ok m) : ∀ p ∈ parts m, p.length < 16777216 := by
  intro p hp
  have hs := h.size
  simp only [parts, List.mem_cons, List.not_mem_nil, or_false] at hp
  rcases hp with rfl | rfl | rfl | rfl | rfl | rfl | rfl | rfl | rfl
  · have := digits_length 6 m.who (by have := h.who; omega); omega
  · have := digits_length 6 m.height (by have := h.height; omega); omega
  · have := digits_length 6 m.round (by have := h.round; omega); omega
  · have := digits_length 6 m.valid (by have := h.valid; omega); omega
  · have := digits_length 6 m.num (by have := h.num; omega); omega
  · have := idPart_length h.id; omega
  · omega
  · have := flatten32 m.ids h.ids32; have := h.ids; omega
  · have := runs_length m.list; have := h.list; omega
theorem put_trunc {m : M} (h : Ok m) (k : Nat) (hk : k < 9) (p : List UInt8) (hp : (parts m)[k]? = some p) (hne : p ≠ []) : put (trunc m k) p (k + 1) = .ok (trunc m (k + 1)) := by
  have hk' : k = 0 ∨ k = 1 ∨ k = 2 ∨ k = 3 ∨ k = 4 ∨ k = 5 ∨ k = 6 ∨ k = 7 ∨ k = 8 := by omega
  rcases hk' with rfl | rfl | rfl | rfl | rfl | rfl | rfl | rfl | rfl
  · simp only [parts, List.getElem?_cons_zero, Option.some.injEq] at hp
    subst hp
    have h0 : 0 < m.who := Nat.pos_of_ne_zero fun e => hne (digits_nil.2 e)
    simp [put, number_digits h0 h.who, trunc]
  · simp only [parts, List.getElem?_cons_succ, List.getElem?_cons_zero, Option.some.injEq] at hp
    subst hp
    have h0 : 0 < m.height := Nat.pos_of_ne_zero fun e => hne (digits_nil.2 e)
    simp [put, number_digits h0 h.height, trunc]
  · simp only [parts, List.getElem?_cons_succ, List.getElem?_cons_zero, Option.some.injEq] at hp
    subst hp
    have h0 : 0 < m.round := Nat.pos_of_ne_zero fun e => hne (digits_nil.2 e)
    simp [put, number_digits h0 h.round, trunc]
  · simp only [parts, List.getElem?_cons_succ, List.getElem?_cons_zero, Option.some.injEq] at hp
    subst hp
    have h0 : 0 < m.valid := Nat.pos_of_ne_zero fun e => hne (digits_nil.2 e)
    simp [put, number_digits h0 h.valid, trunc]
  · simp only [parts, List.getElem?_cons_succ, List.getElem?_cons_zero, Option.some.injEq] at hp
    subst hp
    have h0 : 0 < m.num := Nat.pos_of_ne_zero fun e => hne (digits_nil.2 e)
    simp [put, number_digits h0 h.num, trunc]
  · simp only [parts, List.getElem?_cons_succ, List.getElem?_cons_zero, Option.some.injEq] at hp
    have hz : m.id ≠ zid := fun e => hne (by rw [← hp, idPart, if_pos e])
    rw [idPart, if_neg hz] at hp
    subst hp
    simp [put, trunc, h.id, hz]
  · simp only [parts, List.getElem?_cons_succ, List.getElem?_cons_zero, Option.some.injEq] at hp
    subst hp
    simp [put, trunc]
  · simp only [parts, List.getElem?_cons_succ, List.getElem?_cons_zero, Option.some.injEq] at hp
    subst hp
    have := flatten32 m.ids h.ids32
    have hm : m.ids.flatten.length % 32 = 0 := by omega
    simp only [put, hm, cut32_of _ h.ids32]
    simp [trunc]
  · simp only [parts, List.getElem?_cons_succ, List.getElem?_cons_zero, Option.some.injEq] at hp
    subst hp
    have hr := runs_of m.list fun p hp => by have := sum_le m.list p hp; have := h.size; omega
    simp [put, hr, trunc]
theorem trunc_same {m : M} (h : Ok m) (k : Nat) (hk : k < 9) (hp : (parts m)[k]? = some []) : trunc m k = trunc m (k + 1) := by
  have hk' : k = 0 ∨ k = 1 ∨ k = 2 ∨ k = 3 ∨ k = 4 ∨ k = 5 ∨ k = 6 ∨ k = 7 ∨ k = 8 := by omega
  rcases hk' with rfl | rfl | rfl | rfl | rfl | rfl | rfl | rfl | rfl
  · simp [parts, digits_nil] at hp; simp [trunc, hp]
  · simp [parts, digits_nil] at hp; simp [trunc, hp]
  · simp [parts, digits_nil] at hp; simp [trunc, hp]
  · simp [parts, digits_nil] at hp; simp [trunc, hp]
  · simp [parts, digits_nil] at hp; simp [trunc, hp]
  · simp [parts] at hp
    have hz : m.id = zid := by
      unfold idPart at hp
      split at hp
      · assumption
      · have := h.id; rw [hp] at this; cases this
    simp [trunc, hz]
  · simp [parts] at hp; simp [trunc, hp]
  · simp only [parts, List.getElem?_cons_succ, List.getElem?_cons_zero, Option.some.injEq] at hp
    have := flatten32 m.ids h.ids32
    rw [hp] at this
    have hz : m.ids = [] := List.eq_nil_of_length_eq_zero (by simp at this; omega)
    simp [trunc, hz]
  · simp only [parts, List.getElem?_cons_succ, List.getElem?_cons_zero, Option.some.injEq] at hp
    have := runs_length m.list
    rw [hp] at this
    have hz : m.list = [] := List.eq_nil_of_length_eq_zero (by simp at this; omega)
    simp [trunc, hz]
/-- What was written is read as it was. -/
theorem fields_body {m : M} (h : Ok m) (d : Nat) : ∀ last l0, last + d = 9 → l0 ≤ last → fields l0 (trunc m last) (body (last + 1) ((parts m).drop last)) = .ok m := by
  induction d with
  | zero =>
    intro last l0 hd _
    obtain rfl : last = 9 := by omega
    rw [List.drop_of_length_le (by rw [parts_length]; omega)]
    rw [body, fields.eq_def]
    simp [trunc]
  | succ d ih =>
    intro last l0 hd hl
    have hlt : last < (parts m).length := by rw [parts_length]; omega
    rw [List.drop_eq_getElem_cons hlt, body]
    have hp := List.getElem?_eq_getElem hlt
    obtain ⟨p, hpe⟩ : ∃ p, (parts m)[last] = p := ⟨_, rfl⟩
    rw [hpe] at hp ⊢
    by_cases hn : p = []
    · subst hn
      rw [if_pos rfl, List.nil_append, trunc_same h last (by omega) hp]
      exact ih (last + 1) l0 (by omega) (by omega)
    · rw [if_neg hn, List.cons_append, fields.eq_def]
      have ht : (UInt8.ofNat (last + 1)).toNat = last + 1 := by rw [UInt8.toNat_ofNat']; omega
      have htk := take3_run p (body (last + 1 + 1) ((parts m).drop (last + 1))) (parts_short h p (by rw [← hpe]; exact List.getElem_mem hlt))
      simp only [ht]
      rw [if_neg (by omega)]
      split
      · rename_i e; rw [htk] at e; cases e
      · rename_i x r' e
        rw [htk] at e
        injection e with e
        injection e with e1 e2
        subst e1; subst e2
        rw [if_neg hn, put_trunc h last (by omega) p hp hn]
        exact ih (last + 1) (last + 1) (by omega) (by omega)

/-! ### Whole messages -/
/-- Why a message may not be written: the error's number, or 0. -/
def check (m : M) : Nat :=
  if m.kind < 1 ∨ 31 < m.kind then 21
  else if 1099511627776 < m.who ∨ 1099511627776 < m.height ∨ 1099511627776 < m.round ∨ 1099511627776 < m.valid ∨ 1099511627776 < m.num then 1
  else if 64 < m.ids.length ∨ 64 < m.list.length then 2
  else if 131072 < m.data.length + (m.list.map List.length).sum then 2 else 0
def readM (b : List UInt8) : Except Nat M :=
  match b with
  | [] => .error 20
  | k :: s => if k.toNat < 1 ∨ 31 < k.toNat then .error 21 else
    match fields 0 (M.zero k.toNat) s with
    | .error e => .error e
    | .ok m => if check m = 0 then .ok m else .error (check m)
theorem check_ok {m : M} (h : Ok m) : check m = 0 := by
  have := h.kind1; have := h.kind2; have := h.who; have := h.height; have := h.round; have := h.valid; have := h.num; have := h.ids; have := h.list; have := h.size
  unfold check
  rw [if_neg (by omega), if_neg (by omega), if_neg (by omega), if_neg (by omega)]
/-- ONE WAY, there and back. -/
theorem read_write {m : M} (h : Ok m) : readM (writeM m) = .ok m := by
  have hk : (UInt8.ofNat m.kind).toNat = m.kind := by have := h.kind2; rw [UInt8.toNat_ofNat']; omega
  have hf := fields_body h 9 0 0 (by omega) (by omega)
  have e0 : trunc m 0 = M.zero m.kind := rfl
  rw [e0] at hf
  have e1 : (parts m).drop 0 = parts m := rfl
  rw [e1] at hf
  have := h.kind1; have := h.kind2
  simp only [readM, writeM, hk]
  rw [if_neg (by omega), hf]
  simp only
  rw [if_pos (check_ok h)]
end Go.Proofs.YtkbdkeclbokhdaaDoor.PackMath
