/-
  Plain mathematics for the messages' bytes: numbers as digits of 256 without a leading zero, runs with three bytes of length ahead; nothing here speaks of the program. No conditions but those written.
-/

namespace Go.Proofs.Ytjdgcciemlfapaa.PackMath

/-- A number's bytes: none for zero, no zero ahead. -/
def digits (n : Nat) : List UInt8 := if _h : n = 0 then [] else digits (n / 256) ++ [UInt8.ofNat n]
termination_by n
decreasing_by omega
/-- The number of bytes. -/
def num (s : List UInt8) : Nat := s.foldl (fun a d => a * 256 + d.toNat) 0
theorem digits_zero : digits 0 = [] := by rw [digits]; simp
theorem digits_pos {n : Nat} (h : 0 < n) : digits n = digits (n / 256) ++ [UInt8.ofNat n] := by
  rw [digits]
  simp [show n ≠ 0 by omega]
theorem num_snoc (s : List UInt8) (d : UInt8) : num (s ++ [d]) = num s * 256 + d.toNat := by simp [num]
/-- Bytes with no zero ahead are their number's. -/
theorem digits_num (s : List UInt8) (h : ∀ d t, s = d :: t → d ≠ 0) : digits (num s) = s := by
  rcases List.eq_nil_or_concat s with rfl | ⟨t, d, rfl⟩
  · show digits 0 = []; exact digits_zero
  · rw [List.concat_eq_append] at h ⊢
    have hd := d.toNat_lt
    by_cases ht : t = []
    · subst ht
      have h0 := h d [] rfl
      have hn : 0 < d.toNat := by
        rcases Nat.eq_zero_or_pos d.toNat with h' | h'
        · exact absurd (UInt8.toNat_inj.1 (by rw [h']; rfl)) h0
        · exact h'
      rw [num_snoc, show num [] = 0 from rfl, digits_pos (by omega), show (0 * 256 + d.toNat) / 256 = 0 by omega, digits_zero]
      simp
    · have ih := digits_num t (fun d' t' e => h d' (t' ++ [d]) (by rw [e]; rfl))
      have hp : 0 < num t := by
        rcases Nat.eq_zero_or_pos (num t) with h' | h'
        · rw [h', digits_zero] at ih; exact absurd ih.symm ht
        · exact h'
      rw [num_snoc, digits_pos (by omega), show (num t * 256 + d.toNat) / 256 = num t by omega, ih]
      congr 1
      rw [show UInt8.ofNat (num t * 256 + d.toNat) = d from UInt8.toNat_inj.1 (by rw [UInt8.toNat_ofNat']; omega)]
termination_by s.length
decreasing_by subst_vars; simp

/-! ### Runs -/
def len3 (n : Nat) : List UInt8 := [UInt8.ofNat (n / 65536), UInt8.ofNat (n / 256), UInt8.ofNat n]
def run (b : List UInt8) : List UInt8 := len3 b.length ++ b
/-- The run ahead, and what is behind it. -/
def take3 : List UInt8 → Option (List UInt8 × List UInt8)
  | a :: b :: c :: s => if a.toNat * 65536 + b.toNat * 256 + c.toNat ≤ s.length then some (s.take (a.toNat * 65536 + b.toNat * 256 + c.toNat), s.drop (a.toNat * 65536 + b.toNat * 256 + c.toNat)) else none
  | _ => none
theorem run_take3 {s b t : List UInt8} (h : take3 s = some (b, t)) : s = run b ++ t := by
  match s, h with
  | a :: b' :: c :: s, h =>
    have ha := a.toNat_lt; have hb := b'.toNat_lt; have hc := c.toNat_lt
    simp only [take3] at h
    split at h
    · rename_i hle
      injection h with h
      injection h with h1 h2
      subst h1; subst h2
      have hl : (s.take (a.toNat * 65536 + b'.toNat * 256 + c.toNat)).length = a.toNat * 65536 + b'.toNat * 256 + c.toNat := by rw [List.length_take]; omega
      simp only [run, len3, hl]
      have e1 : UInt8.ofNat ((a.toNat * 65536 + b'.toNat * 256 + c.toNat) / 65536) = a := UInt8.toNat_inj.1 (by rw [UInt8.toNat_ofNat']; omega)
      have e2 : UInt8.ofNat ((a.toNat * 65536 + b'.toNat * 256 + c.toNat) / 256) = b' := UInt8.toNat_inj.1 (by rw [UInt8.toNat_ofNat']; omega)
      have e3 : UInt8.ofNat (a.toNat * 65536 + b'.toNat * 256 + c.toNat) = c := UInt8.toNat_inj.1 (by rw [UInt8.toNat_ofNat']; omega)
      rw [e1, e2, e3]
      simp
    · cases h

/-! ### Messages -/
structure M where
  kind : Nat
  who : Nat
  height : Nat
  round : Nat
  valid : Nat
  num : Nat
  id : List UInt8
  data : List UInt8
  ids : List (List UInt8)
  list : List (List UInt8)
def zid : List UInt8 := List.replicate 32 0
/-- A message of a kind and nothing else. -/
def M.zero (k : Nat) : M := ⟨k, 0, 0, 0, 0, 0, zid, [], [], []⟩
def idPart (i : List UInt8) : List UInt8 := if i = zid then [] else i
def parts (m : M) : List (List UInt8) := [digits m.who, digits m.height, digits m.round, digits m.valid, digits m.num, idPart m.id, m.data, m.ids.flatten, (m.list.map run).flatten]
/-- The fields that are not empty, from a tag on. -/
def body : Nat → List (List UInt8) → List UInt8
  | _, [] => []
  | k, p :: ps => (if p = [] then [] else UInt8.ofNat k :: run p) ++ body (k + 1) ps
def writeM (m : M) : List UInt8 := UInt8.ofNat m.kind :: body 1 (parts m)
/-! ### Reading -/
def number (s : List UInt8) : Option Nat := match s with
  | [] => none
  | d :: _ => if d = 0 ∨ 6 < s.length ∨ 1099511627776 < num s then none else some (num s)
/-- Cut in pieces of thirty-two. -/
def cut32 (s : List UInt8) : List (List UInt8) := if _h : s = [] then [] else s.take 32 :: cut32 (s.drop 32)
termination_by s.length
decreasing_by
  have := List.length_pos_iff.2 _h
  simp; omega
theorem take3_short {s b t : List UInt8} (h : take3 s = some (b, t)) : t.length < s.length := by
  rw [run_take3 h]
  simp [run, len3]
  omega
/-- Runs, one behind the other. -/
def runs (s : List UInt8) : Option (List (List UInt8)) := if _h : s = [] then some [] else match _e : take3 s with
  | none => none
  | some (b, t) => (runs t).map (b :: ·)
termination_by s.length
decreasing_by exact take3_short _e

theorem digits_number {s : List UInt8} {n : Nat} (h : number s = some n) : digits n = s ∧ n ≤ 1099511627776 ∧ s ≠ [] := by
  match s, h with
  | d :: s, h =>
    simp only [number] at h
    split at h
    · cases h
    · rename_i hc
      injection h with h
      subst h
      refine ⟨digits_num _ fun d' t' e => ?_, by omega, by simp⟩
      injection e with e1 e2
      subst e1
      exact fun h0 => hc (.inl h0)
theorem cut32_flatten (s : List UInt8) : (cut32 s).flatten = s := by
  induction h : s.length using Nat.strongRecOn generalizing s with
  | _ n ih =>
    rw [cut32]
    split
    · rename_i h0; simp [h0]
    · rename_i h0
      have := List.length_pos_iff.2 h0
      rw [List.flatten_cons, ih (s.drop 32).length (by simp; omega) _ rfl, List.take_append_drop]
theorem of_runs {s : List UInt8} {ps : List (List UInt8)} (h : runs s = some ps) : (ps.map run).flatten = s := by
  induction hn : s.length using Nat.strongRecOn generalizing s ps with
  | _ n ih =>
    rw [runs] at h
    split at h
    · rename_i h0; injection h with h; subst h; simp [h0]
    · split at h
      · cases h
      · rename_i b t e
        have hs := run_take3 e
        have hl := take3_short e
        cases hr : runs t with
        | none => rw [hr] at h; cases h
        | some qs =>
          rw [hr] at h
          injection h with h
          subst h
          rw [List.map_cons, List.flatten_cons, ih t.length (by omega) hr rfl, ← hs]

/-- A field put into a message: the message, or the error's number. -/
def put (m : M) (s : List UInt8) : Nat → Except Nat M
  | 1 => match number s with | some n => .ok { m with who := n } | none => .error 23
  | 2 => match number s with | some n => .ok { m with height := n } | none => .error 23
  | 3 => match number s with | some n => .ok { m with round := n } | none => .error 23
  | 4 => match number s with | some n => .ok { m with valid := n } | none => .error 23
  | 5 => match number s with | some n => .ok { m with num := n } | none => .error 23
  | 6 => if s.length ≠ 32 ∨ s = zid then .error 23 else .ok { m with id := s }
  | 7 => .ok { m with data := s }
  | 8 => if s.length % 32 ≠ 0 then .error 23 else .ok { m with ids := cut32 s }
  | 9 => match runs s with | some l => .ok { m with list := l } | none => .error 20
  | _ => .error 21
def fields (last : Nat) (m : M) (s : List UInt8) : Except Nat M :=
  match s with
  | [] => .ok m
  | t :: r => if t.toNat ≤ last ∨ 9 < t.toNat then .error 21 else
    match _e : take3 r with
    | none => .error 20
    | some (x, r') => if x = [] then .error 23 else
      match put m x t.toNat with
      | .error e => .error e
      | .ok m' => fields t.toNat m' r'
termination_by s.length
decreasing_by
  have := take3_short _e
  simp; omega
theorem put_parts {m m' : M} {x : List UInt8} {t : Nat} (h : put m x t = .ok m') : parts m' = (parts m).set (t - 1) x ∧ m'.kind = m.kind ∧ (m.id.length = 32 → m'.id.length = 32) ∧ 1 ≤ t ∧ t ≤ 9 := by
  unfold put at h
  split at h
  · split at h
    · rename_i n hn
      injection h with h
      subst h
      obtain ⟨h1, _, _⟩ := digits_number hn
      exact ⟨by simp [parts, h1], rfl, id, by omega, by omega⟩
    · cases h
  · split at h
    · rename_i n hn
      injection h with h
      subst h
      obtain ⟨h1, _, _⟩ := digits_number hn
      exact ⟨by simp [parts, h1], rfl, id, by omega, by omega⟩
    · cases h
  · split at h
    · rename_i n hn
      injection h with h
      subst h
      obtain ⟨h1, _, _⟩ := digits_number hn
      exact ⟨by simp [parts, h1], rfl, id, by omega, by omega⟩
    · cases h
  · split at h
    · rename_i n hn
      injection h with h
      subst h
      obtain ⟨h1, _, _⟩ := digits_number hn
      exact ⟨by simp [parts, h1], rfl, id, by omega, by omega⟩
    · cases h
  · split at h
    · rename_i n hn
      injection h with h
      subst h
      obtain ⟨h1, _, _⟩ := digits_number hn
      exact ⟨by simp [parts, h1], rfl, id, by omega, by omega⟩
    · cases h
  · split at h
    · cases h
    · rename_i hc
      injection h with h
      subst h
      have h32 : x.length = 32 := by
        rcases Nat.decEq x.length 32 with h' | h'
        · exact absurd (.inl h') hc
        · exact h'
      exact ⟨by simp [parts, idPart, show ¬ x = zid from fun e => hc (.inr e)], rfl, fun _ => h32, by omega, by omega⟩
  · injection h with h
    subst h
    exact ⟨by simp [parts], rfl, id, by omega, by omega⟩
  · split at h
    · cases h
    · injection h with h
      subst h
      exact ⟨by simp [parts, cut32_flatten], rfl, id, by omega, by omega⟩
  · split at h
    · rename_i l hl
      injection h with h
      subst h
      exact ⟨by simp [parts, of_runs hl], rfl, id, by omega, by omega⟩
    · cases h
  · cases h
theorem body_append (k : Nat) (ps qs : List (List UInt8)) : body k (ps ++ qs) = body k ps ++ body (k + ps.length) qs := by
  induction ps generalizing k with
  | nil => simp [body]
  | cons p ps ih => rw [List.cons_append, body, body, ih, List.append_assoc, List.length_cons, Nat.add_assoc, Nat.add_comm 1]
theorem body_none (k : Nat) (ps : List (List UInt8)) (h : ∀ p ∈ ps, p = []) : body k ps = [] := by
  induction ps generalizing k with
  | nil => rfl
  | cons p ps ih => rw [body, if_pos (h p (by simp)), ih _ fun q hq => h q (by simp [hq])]; rfl
theorem parts_length (m : M) : (parts m).length = 9 := rfl
/-- What is read is what would be written. -/
theorem body_fields {last : Nat} {m m' : M} {s : List UInt8} (h : fields last m s = .ok m') (hl : last ≤ 9) (he : ∀ p ∈ (parts m).drop last, p = []) :
    s = body (last + 1) ((parts m').drop last) ∧ (parts m').take last = (parts m).take last ∧ m'.kind = m.kind ∧ (m.id.length = 32 → m'.id.length = 32) := by
  induction hn : s.length using Nat.strongRecOn generalizing s m last with
  | _ n ih =>
    rw [fields.eq_def] at h
    split at h
    · injection h with h
      subst h
      exact ⟨(body_none _ _ he).symm, rfl, rfl, id⟩
    · rename_i t r
      split at h
      · cases h
      · rename_i hc
        split at h
        · cases h
        · rename_i x r' hr
          split at h
          · cases h
          · rename_i hx
            split at h
            · cases h
            · rename_i m1 hp
              obtain ⟨q1, q2, q3, q4, q5⟩ := put_parts hp
              have hs := take3_short hr
              have ht : t.toNat - 1 < (parts m).length := by rw [parts_length]; omega
              obtain ⟨i1, i2, i3, i4⟩ := ih r'.length (by simp at hn; omega) h (by omega) (by
                rw [q1, List.drop_set]
                rw [if_pos (by omega)]
                intro p hp'
                exact he p (by
                  have : (parts m).drop t.toNat = ((parts m).drop last).drop (t.toNat - last) := by rw [List.drop_drop]; congr 1; omega
                  rw [this] at hp'
                  exact List.mem_of_mem_drop hp')) rfl
              have e1 : (parts m').take t.toNat = (parts m).take (t.toNat - 1) ++ [x] := by
                rw [i2, q1]
                have : t.toNat = (t.toNat - 1) + 1 := by omega
                rw [this, List.take_succ_eq_append_getElem (by rw [List.length_set]; omega), List.take_set_of_le (by omega)]
                simp
              have e2 : parts m' = (parts m).take (t.toNat - 1) ++ ([x] ++ (parts m').drop t.toNat) := by
                rw [← List.append_assoc, ← e1, List.take_append_drop]
              have hlen : ((parts m).take (t.toNat - 1)).length = t.toNat - 1 := by rw [List.length_take]; omega
              refine ⟨?_, ?_, i3.trans q2, fun h32 => i4 (q3 h32)⟩
              · have e3 : (parts m').drop last = ((parts m).take (t.toNat - 1)).drop last ++ ([x] ++ (parts m').drop t.toNat) := by
                  rw [e2, List.drop_append_of_le_length (by omega), ← e2]
                rw [e3, body_append, body_none _ (((parts m).take (t.toNat - 1)).drop last) (fun p hp' => he p (by
                  rw [List.drop_take] at hp'
                  exact List.mem_of_mem_take hp')), List.nil_append, List.length_drop, hlen]
                rw [show last + 1 + (t.toNat - 1 - last) = t.toNat by omega, List.singleton_append, body, if_neg hx, ← i1, run_take3 hr]
                simp
              · rw [e2, List.take_append_of_le_length (by omega), List.take_take]
                congr 1
                omega

theorem flatten32 (ps : List (List UInt8)) (h : ∀ p ∈ ps, p.length = 32) : ps.flatten.length = 32 * ps.length := by
  induction ps with
  | nil => rfl
  | cons p ps ih =>
    have := h p (by simp)
    rw [List.flatten_cons, List.length_append, ih fun q hq => h q (by simp [hq]), List.length_cons]
    omega
/-! ### Whole messages -/
/-- Why a message may not be written: the error's number, or 0. -/
def check (m : M) : Nat :=
  if m.kind < 1 ∨ 31 < m.kind then 21
  else if 1099511627776 < m.who ∨ 1099511627776 < m.height ∨ 1099511627776 < m.round ∨ 1099511627776 < m.valid ∨ 1099511627776 < m.num then 1
  else if 64 < m.ids.length ∨ 64 < m.list.length then 2
  else if 131072 < m.data.length + (m.list.map List.length).sum then 2 else 0
def readM (b : List UInt8) : Except Nat M :=
  match b with
  | [] => .error 20
  | k :: s => if k.toNat < 1 ∨ 31 < k.toNat then .error 21 else
    match fields 0 (M.zero k.toNat) s with
    | .error e => .error e
    | .ok m => if check m = 0 then .ok m else .error (check m)
/-- ONE WAY, back and there. -/
theorem write_read {b : List UInt8} {m : M} (h : readM b = .ok m) : writeM m = b ∧ check m = 0 ∧ m.id.length = 32 := by
  unfold readM at h
  split at h
  · cases h
  · rename_i k s
    split at h
    · cases h
    · split at h
      · cases h
      · rename_i m' hf
        split at h
        · rename_i hc
          injection h with h
          subst h
          obtain ⟨h1, h2, h3, h4⟩ := body_fields hf (by omega) (by
            intro p hp
            simp [parts, M.zero, digits_zero, idPart] at hp
            exact hp)
          refine ⟨?_, hc, h4 rfl⟩
          have e1 : (parts m').drop 0 = parts m' := rfl
          rw [e1] at h1
          rw [writeM, ← h1, h3]
          simp [M.zero]
        · cases h
end Go.Proofs.Ytjdgcciemlfapaa.PackMath
