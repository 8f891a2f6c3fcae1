/-
  Bytes as strings, IDs held against each other, messages as they lie in memory: nothing here names a function of the program. No condition.
-/
import Derived.Test.YtkbdkeclbokhdaaDoorJrnSum
import Derived.Test.YtkbdkeclbokhdaaDoorQ10
import Derived.Test.YtkbdkeclbokhdaaDoorQ12
import Derived.Test.YtkbdkeclbokhdaaDoorRd
import Derived.Test.YtkbdkeclbokhdaaDoorQ9
import Derived.Test.YtkbdkeclbokhdaaDoorPackKit
import Derived.Stop.BytesEq
import Derived.Deep.MidRow
namespace Go.Proofs.YtkbdkeclbokhdaaDoor
open Go Go.RowKit Go.Shelf PackMath

theorem id32_getD (f : Nat → UInt8) (i : Nat) (h : i < 32) : (id32 f).getD i 0 = f i := by simp [id32, h]
theorem id32_of (l : List UInt8) (h : l.length = 32) : id32 (fun i => l.getD i 0) = l := by
  apply List.ext_getElem?
  intro i
  by_cases hi : i < 32
  · simp [id32, hi, List.getElem?_eq_getElem (show i < l.length by omega)]
  · rw [List.getElem?_eq_none (by simp [id32]; omega), List.getElem?_eq_none (by omega)]
theorem id32_zero : id32 (fun _ => 0) = zid := by decide
theorem built_zero : (Tryd.prog.built 37 []).getD #[] = arr 32 fun _ => bv 0 := by
  have e : (Tryd.prog.built 37 []).getD #[] = (arr 32 fun _ => bv 0) := by kernel_rfl
  exact e

/-! ### Messages as they lie -/
/-- What a message reads as: the numbers as they are, the ID's bytes, the bytes of the rest. -/
structure Raw where
  kind : Int
  who : Int
  height : Int
  round : Int
  valid : Int
  num : Int
  id : Nat → UInt8
  data : List UInt8
  ids : List (Nat → UInt8)
  list : List (List UInt8)
/-- The forty-one cells, the three slices as they are. -/
def msgF (r : Raw) (d i l : Value) : Nat → Value
  | 0 => .int .i64 r.kind
  | 1 => .int .i64 r.who
  | 2 => .int .i64 r.height
  | 3 => .int .i64 r.round
  | 4 => .int .i64 r.valid
  | 5 => .int .i64 r.num
  | k => if k < 38 then bv (r.id (k - 6)) else if k = 38 then d else if k = 39 then i else l
def msgA (r : Raw) (d i l : Value) : Array Value := arr 41 (msgF r d i l)
/-- A slice of IDs. -/
def RdI (W : World) (ok : Nat → Prop) (A : Option Addr) (ps : List (Nat → UInt8)) : Prop :=
  ∀ k, k < ps.length → ∃ ad : Addr, A = some ad ∧ ok ad.block ∧ ∀ i, i < 32 → W.cell? (ad.add (32 * k + i)) = some (bv (ps.getD k (fun _ => 0) i))
theorem RdI.kept {W W' : World} {ok : Nat → Prop} {A : Option Addr} {ps : List (Nat → UInt8)} (h : RdI W ok A ps) (hk : ∀ (a : Addr) (x : Value), ok a.block → W.cell? a = some x → W'.cell? a = some x) : RdI W' ok A ps := fun k hlt => by
  obtain ⟨ad, hA, hok, hc⟩ := h k hlt
  exact ⟨ad, hA, hok, fun i hi => hk _ _ (by rw [block_add]; exact hok) (hc i hi)⟩
theorem RdI.mono {W : World} {ok ok' : Nat → Prop} {A : Option Addr} {ps : List (Nat → UInt8)} (h : RdI W ok A ps) (hm : ∀ b, ok b → ok' b) : RdI W ok' A ps := fun k hlt => by
  obtain ⟨ad, hA, hok, hc⟩ := h k hlt
  exact ⟨ad, hA, hm _ hok, hc⟩
theorem RdP.mono {W : World} {ok ok' : Nat → Prop} {A : Option Addr} {ps : List (List UInt8)} (h : RdP W ok A ps) (hm : ∀ b, ok b → ok' b) : RdP W ok' A ps := fun k hlt => by
  obtain ⟨ad, v, hA, hok, hc, hr⟩ := h k hlt
  exact ⟨ad, v, hA, hm _ hok, hc, hr.mono hm⟩
/-- What the three slices read as. -/
structure RdR (W : World) (ok : Nat → Prop) (r : Raw) (d i l : Value) : Prop where
  data : RdB W ok d r.data
  ids : ∃ A c, i = .slice A r.ids.length c ∧ r.ids.length ≤ 140737488351232 ∧ RdI W ok A r.ids
  list : ∃ A c, l = .slice A r.list.length c ∧ r.list.length ≤ 140737488351232 ∧ RdP W ok A r.list
theorem RdR.kept {W W' : World} {ok : Nat → Prop} {r : Raw} {d i l : Value} (h : RdR W ok r d i l) (hk : ∀ (a : Addr) (x : Value), ok a.block → W.cell? a = some x → W'.cell? a = some x) : RdR W' ok r d i l := by
  obtain ⟨h1, ⟨A, c, e1, e2, e3⟩, ⟨A', c', f1, f2, f3⟩⟩ := h
  exact ⟨h1.kept hk, ⟨A, c, e1, e2, e3.kept hk⟩, ⟨A', c', f1, f2, f3.kept hk⟩⟩
theorem RdR.mono {W : World} {ok ok' : Nat → Prop} {r : Raw} {d i l : Value} (h : RdR W ok r d i l) (hm : ∀ b, ok b → ok' b) : RdR W ok' r d i l := by
  obtain ⟨h1, ⟨A, c, e1, e2, e3⟩, ⟨A', c', f1, f2, f3⟩⟩ := h
  exact ⟨h1.mono hm, ⟨A, c, e1, e2, e3.mono hm⟩, ⟨A', c', f1, f2, f3.mono hm⟩⟩
theorem RdR.below {B : Nat} {W W' : World} {r : Raw} {d i l : Value} (h : RdR W (fun b => b < B) r d i l) (hb : Below B W W') : RdR W' (fun b => b < B) r d i l := h.kept fun a _ ha hx => (hb.cell (p := a) ha).trans hx
/-- As plain mathematics has it. -/
def Raw.m (r : Raw) : M := ⟨r.kind.toNat, r.who.toNat, r.height.toNat, r.round.toNat, r.valid.toNat, r.num.toNat, id32 r.id, r.data, r.ids.map id32, r.list⟩
/-- The error's number. -/
def Raw.check (r : Raw) : Nat :=
  if r.kind < 1 ∨ 31 < r.kind then 21
  else if r.who < 0 ∨ 1099511627776 < r.who ∨ r.height < 0 ∨ 1099511627776 < r.height ∨ r.round < 0 ∨ 1099511627776 < r.round ∨ r.valid < 0 ∨ 1099511627776 < r.valid ∨ r.num < 0 ∨ 1099511627776 < r.num then 1
  else if 64 < r.ids.length ∨ 64 < r.list.length then 2
  else if 131072 < r.data.length + (r.list.map List.length).sum then 2 else 0
/-- What can be written. -/
structure Raw.Fit (r : Raw) : Prop where
  kind : 1 ≤ r.kind ∧ r.kind ≤ 31
  who : 0 ≤ r.who ∧ r.who ≤ 1099511627776
  height : 0 ≤ r.height ∧ r.height ≤ 1099511627776
  round : 0 ≤ r.round ∧ r.round ≤ 1099511627776
  valid : 0 ≤ r.valid ∧ r.valid ≤ 1099511627776
  num : 0 ≤ r.num ∧ r.num ≤ 1099511627776
  ids : r.ids.length ≤ 64
  list : r.list.length ≤ 64
  size : r.data.length + (r.list.map List.length).sum ≤ 131072
theorem Raw.fit_iff (r : Raw) : r.check = 0 ↔ r.Fit := by
  unfold Raw.check
  constructor
  · intro h
    split at h
    · cases h
    · split at h
      · cases h
      · split at h
        · cases h
        · split at h
          · cases h
          · exact ⟨by omega, by omega, by omega, by omega, by omega, by omega, by omega, by omega, by omega⟩
  · rintro ⟨h1, h2, h3, h4, h5, h6, h7, h8, h9⟩
    rw [if_neg (by omega), if_neg (by omega), if_neg (by omega), if_neg (by omega)]
theorem Raw.Fit.ok {r : Raw} (h : r.Fit) : Ok r.m := by
  obtain ⟨h1, h2, h3, h4, h5, h6, h7, h8, h9⟩ := h
  exact ⟨by show 1 ≤ r.kind.toNat; omega, by show r.kind.toNat ≤ 31; omega, by show r.who.toNat ≤ _; omega, by show r.height.toNat ≤ _; omega, by show r.round.toNat ≤ _; omega, by show r.valid.toNat ≤ _; omega, by show r.num.toNat ≤ _; omega,
    id32_length _, by show (r.ids.map id32).length ≤ 64; simpa using h7, fun i hi => by
      have hi' : i ∈ r.ids.map id32 := hi
      simp only [List.mem_map] at hi'
      obtain ⟨f, _, rfl⟩ := hi'
      exact id32_length f, h8, h9⟩
end Go.Proofs.YtkbdkeclbokhdaaDoor
