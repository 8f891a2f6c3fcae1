/-
  The reference's put, for all nine tags: for every message that reads, any string that isn't empty, in whatever memory: what the plain mathematics says.
-/
import Derived.Test.YtngceddlieimmaaPackRefPut8
namespace Go.Proofs.Ytngceddlieimmaa
open Go Go.RowKit PackMath

/-- What the reference's put hands back. -/
def RefPutOut (w : World) (okb : Nat → Prop) (r : Raw) (i l : Value) (bs : List UInt8) (t : Nat) (e : Ending) (w' : World) : Prop :=
  match put r.m bs t with
  | .error c => c ≠ 0 ∧ ∃ M, e = .returned (.tuple #[.agg M, .int .i64 (c : Int)]) ∧ M.size = 41 ∧ M.all (·.oneCell') = true
  | .ok m' => ∃ r' d' i' l', r'.m = m' ∧ r'.NN ∧ e = .returned (.tuple #[.agg (msgA r' d' i' l'), .int .i64 0]) ∧ (msgA r' d' i' l').all (·.oneCell') = true ∧ RdR w' (fun b => okb b ∨ fresh w w' b) r' d' i' l' ∧ (t < 8 → i' = i ∧ r'.ids = r.ids) ∧ (t < 9 → l' = l ∧ r'.list = r.list)
set_option maxHeartbeats 1000000 in
theorem refPut_any (r : Raw) (d i l : Value) (bs : List UInt8) (t : Nat) (okb : Nat → Prop) (hne : bs ≠ []) (hm : bs.length ≤ 100000000) (ht1 : 1 ≤ t) (ht9 : t ≤ 9) (w : World) (hr : RdR w okb r d i l) (hok : ∀ b, okb b → b < w.heap.size) (hN : r.NN)
    (h8 : t = 8 → i = nilS) (h9 : t = 9 → l = nilS) :
    Calls Try.prog 25 #[.agg (msgA r d i l), .int .i64 (t : Int), .string ⟨bs.toArray⟩] w fun e w' => RefPutOut w okb r i l bs t e w' ∧ Below w.heap.size w w' := by
  have hr' : RdR w (fun b => b < w.heap.size) r d i l := hr.mono hok
  have keep : ∀ {w' : World}, Below w.heap.size w w' → RdR w' (fun b => okb b ∨ fresh w w' b) r d i l := fun {w'} h => (hr.kept (W' := w') fun a x ha hx => (h.cell (p := a) (hok _ ha)).trans hx).mono fun b hb => .inl hb
  obtain ⟨n0, n1, n2, n3, n4, n5⟩ := id hN
  unfold RefPutOut
  have hs : t = 1 ∨ t = 2 ∨ t = 3 ∨ t = 4 ∨ t = 5 ∨ t = 6 ∨ t = 7 ∨ t = 8 ∨ t = 9 := by omega
  rcases hs with rfl | rfl | rfl | rfl | rfl | rfl | rfl | rfl | rfl
  · refine (refPut1 r d i l bs hne (by omega) w hr').mono ?_
    rintro e w' ⟨h1, h2, hb⟩
    refine ⟨?_, hb⟩
    show match (match number bs with | some n => Except.ok { r.m with who := n } | none => .error 23 : Except Nat M) with | .error c => _ | .ok r' => _
    cases hq : number bs with
    | none => exact ⟨by omega, h1 hq⟩
    | some n =>
      obtain ⟨k1, k2, k3⟩ := keep hb
      exact ⟨{ r with who := (n : Int) }, d, i, l, rfl, ⟨n0, (by show (0 : Int) ≤ n; omega), n2, n3, n4, n5⟩, h2 n hq, msg_all (W := w') (r := { r with who := (n : Int) }) ⟨k1, k2, k3⟩, ⟨k1, k2, k3⟩, fun _ => ⟨rfl, rfl⟩, fun _ => ⟨rfl, rfl⟩⟩
  · refine (refPut2 r d i l bs hne (by omega) w hr').mono ?_
    rintro e w' ⟨h1, h2, hb⟩
    refine ⟨?_, hb⟩
    show match (match number bs with | some n => Except.ok { r.m with height := n } | none => .error 23 : Except Nat M) with | .error c => _ | .ok r' => _
    cases hq : number bs with
    | none => exact ⟨by omega, h1 hq⟩
    | some n =>
      obtain ⟨k1, k2, k3⟩ := keep hb
      exact ⟨{ r with height := (n : Int) }, d, i, l, rfl, ⟨n0, n1, (by show (0 : Int) ≤ n; omega), n3, n4, n5⟩, h2 n hq, msg_all (W := w') (r := { r with height := (n : Int) }) ⟨k1, k2, k3⟩, ⟨k1, k2, k3⟩, fun _ => ⟨rfl, rfl⟩, fun _ => ⟨rfl, rfl⟩⟩
  · refine (refPut3 r d i l bs hne (by omega) w hr').mono ?_
    rintro e w' ⟨h1, h2, hb⟩
    refine ⟨?_, hb⟩
    show match (match number bs with | some n => Except.ok { r.m with round := n } | none => .error 23 : Except Nat M) with | .error c => _ | .ok r' => _
    cases hq : number bs with
    | none => exact ⟨by omega, h1 hq⟩
    | some n =>
      obtain ⟨k1, k2, k3⟩ := keep hb
      exact ⟨{ r with round := (n : Int) }, d, i, l, rfl, ⟨n0, n1, n2, (by show (0 : Int) ≤ n; omega), n4, n5⟩, h2 n hq, msg_all (W := w') (r := { r with round := (n : Int) }) ⟨k1, k2, k3⟩, ⟨k1, k2, k3⟩, fun _ => ⟨rfl, rfl⟩, fun _ => ⟨rfl, rfl⟩⟩
  · refine (refPut4 r d i l bs hne (by omega) w hr').mono ?_
    rintro e w' ⟨h1, h2, hb⟩
    refine ⟨?_, hb⟩
    show match (match number bs with | some n => Except.ok { r.m with valid := n } | none => .error 23 : Except Nat M) with | .error c => _ | .ok r' => _
    cases hq : number bs with
    | none => exact ⟨by omega, h1 hq⟩
    | some n =>
      obtain ⟨k1, k2, k3⟩ := keep hb
      exact ⟨{ r with valid := (n : Int) }, d, i, l, rfl, ⟨n0, n1, n2, n3, (by show (0 : Int) ≤ n; omega), n5⟩, h2 n hq, msg_all (W := w') (r := { r with valid := (n : Int) }) ⟨k1, k2, k3⟩, ⟨k1, k2, k3⟩, fun _ => ⟨rfl, rfl⟩, fun _ => ⟨rfl, rfl⟩⟩
  · refine (refPut5 r d i l bs hne (by omega) w hr').mono ?_
    rintro e w' ⟨h1, h2, hb⟩
    refine ⟨?_, hb⟩
    show match (match number bs with | some n => Except.ok { r.m with num := n } | none => .error 23 : Except Nat M) with | .error c => _ | .ok r' => _
    cases hq : number bs with
    | none => exact ⟨by omega, h1 hq⟩
    | some n =>
      obtain ⟨k1, k2, k3⟩ := keep hb
      exact ⟨{ r with num := (n : Int) }, d, i, l, rfl, ⟨n0, n1, n2, n3, n4, (by show (0 : Int) ≤ n; omega)⟩, h2 n hq, msg_all (W := w') (r := { r with num := (n : Int) }) ⟨k1, k2, k3⟩, ⟨k1, k2, k3⟩, fun _ => ⟨rfl, rfl⟩, fun _ => ⟨rfl, rfl⟩⟩
  · refine (refPut6 r d i l bs hne (by omega) w hr').mono ?_
    rintro e w' ⟨h1, h2, hb⟩
    refine ⟨?_, hb⟩
    have hp : put r.m bs 6 = if bs.length ≠ 32 ∨ bs = zid then Except.error 23 else .ok { r.m with id := bs } := rfl
    rw [hp]
    by_cases hq : bs.length ≠ 32 ∨ bs = zid
    · rw [if_pos hq]
      exact ⟨by omega, h1 hq⟩
    · rw [if_neg hq]
      obtain ⟨k1, k2, k3⟩ := keep hb
      have h32 : bs.length = 32 := Decidable.byContradiction fun h => hq (.inl h)
      refine ⟨{ r with id := fun j => bs.getD j 0 }, d, i, l, ?_, ⟨n0, n1, n2, n3, n4, n5⟩, h2 hq, msg_all (W := w') (r := { r with id := fun j => bs.getD j 0 }) ⟨k1, k2, k3⟩, ⟨k1, k2, k3⟩, fun _ => ⟨rfl, rfl⟩, fun _ => ⟨rfl, rfl⟩⟩
      simp only [Raw.m, id32_of bs h32]
  · refine (refPut7 r d i l bs hne (by omega) w hr').mono ?_
    rintro e w' ⟨⟨d', he, hd, ha⟩, hb⟩
    refine ⟨?_, hb⟩
    have hp : put r.m bs 7 = Except.ok { r.m with data := bs } := rfl
    rw [hp]
    obtain ⟨k1, k2, k3⟩ := keep hb
    exact ⟨{ r with data := bs }, d', i, l, rfl, ⟨n0, n1, n2, n3, n4, n5⟩, he, ha, ⟨hd.mono fun b hb => .inr hb, k2, k3⟩, fun _ => ⟨rfl, rfl⟩, fun _ => ⟨rfl, rfl⟩⟩
  · obtain rfl := h8 rfl
    refine (refPut8 r d l bs hne hm w hr').mono ?_
    rintro e w' ⟨h1, h2, hb⟩
    refine ⟨?_, hb⟩
    have hp : put r.m bs 8 = if bs.length % 32 ≠ 0 then Except.error 23 else .ok { r.m with ids := cut32 bs } := rfl
    rw [hp]
    by_cases hq : bs.length % 32 = 0
    · rw [if_neg (fun h => h hq)]
      obtain ⟨i', he, ha, A, c, rfl, q2, q3⟩ := h2 hq
      obtain ⟨k1, k2, k3⟩ := keep hb
      refine ⟨{ r with ids := idsOf bs }, d, _, l, ?_, ⟨n0, n1, n2, n3, n4, n5⟩, he, ha, ⟨k1, ⟨A, c, rfl, q2, q3.mono fun b hb => .inr hb⟩, k3⟩, fun h => absurd h (by omega), fun _ => ⟨rfl, rfl⟩⟩
      simp only [Raw.m, idsOf_cut bs hq]
    · rw [if_pos hq]
      exact ⟨by omega, h1 hq⟩
  · obtain rfl := h9 rfl
    refine (refPut9 r d i bs hne hm w hr').mono ?_
    rintro e w' ⟨h1, h2, hb⟩
    refine ⟨?_, hb⟩
    show match (match runs bs with | some l => Except.ok { r.m with list := l } | none => .error 20 : Except Nat M) with | .error c => _ | .ok r' => _
    cases hq : runs bs with
    | none => exact ⟨by omega, h1 hq⟩
    | some es =>
      obtain ⟨l', he, ha, A, c, rfl, q2, q3⟩ := h2 es hq
      obtain ⟨k1, k2, k3⟩ := keep hb
      exact ⟨{ r with list := es }, d, i, _, rfl, ⟨n0, n1, n2, n3, n4, n5⟩, he, ha, ⟨k1, k2, ⟨A, c, rfl, q2, q3.mono fun b hb => .inr hb⟩⟩, fun _ => ⟨rfl, rfl⟩, fun h => absurd h (by omega)⟩
end Go.Proofs.Ytngceddlieimmaa
