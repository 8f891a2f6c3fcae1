/-
  Messages kept in a journal, beside a row of texts: what each step leaves. No condition.
-/
import Derived.Test.YtkbdkeclbokhdaaDoorQ24
import Derived.Test.YtkbdkeclbokhdaaDoorQ25
import Derived.Test.YtkbdkeclbokhdaaDoorPackRead
import Derived.Test.YtkbdkeclbokhdaaDoorPackReadMath
import Derived.Test.YtkbdkeclbokhdaaDoorPackWrite
namespace Go.Proofs.YtkbdkeclbokhdaaDoor
open Go Go.RowKit Go.Shelf PackMath

/-- A journal with its slab and a row of texts, in memory of a law's own. -/
structure FilG (w : World) (s : JrnS) (sd : SlabS) (ws : List (List UInt8)) (gj gd : Nat) (T : Nat → Prop) (v : Value) (W : World) : Prop where
  js : JS W T gj gd s sd
  tb : ∀ i, T i → w.heap.size ≤ i
  row : W.ownsRow w.heap.size 9 1 v ws.length (strC ws).flatten
  rt : ∀ i, v.ownBlock = some i → ¬ T i
  old : Below w.heap.size w W
section
variable {w W W' : World} {s s' : JrnS} {sd sd' : SlabS} {ws : List (List UInt8)} {gj gd : Nat} {T : Nat → Prop} {v : Value}
theorem FilG.below (h : FilG w s sd ws gj gd T v W) (hb : Below W.heap.size W W') : FilG w s sd ws gj gd T v W' :=
  ⟨h.js.below hb, h.tb, Turn.own (Turn.of_below hb) h.row (fun i hi => by have := (h.row.lt i hi).2; omega), h.rt, h.old.trans (hb.mono h.old.size)⟩
theorem FilG.out (h : FilG w s sd ws gj gd T v W) (ho : JOut T gj gd s' sd' W W') : ∃ T', FilG w s' sd' ws gj gd T' v W' ∧ Turn T W W' ∧ ∀ i, T' i → T i ∨ W.heap.size ≤ i := by
  obtain ⟨T', h1, ht, h3⟩ := ho
  refine ⟨T', ⟨h1, fun i hi => ?_, Turn.own ht h.row (fun i hi => h.rt i hi), fun i hi hz => ?_, below_turn h.old (Nat.le_refl _) ht h.tb⟩, ht, h3⟩
  · rcases h3 i hi with h' | h'
    · exact h.tb i h'
    · exact Nat.le_trans h.old.size h'
  · rcases h3 i hz with h' | h'
    · exact h.rt i hi h'
    · have := (h.row.lt i hi).2
      omega
/-- A journal opened anew on the slab. -/
theorem FilG.opened (h : FilG w s sd ws gj gd T v W) (hT : Tables w) (ho : openJ sd = (some s', sd', 0)) :
    Calls Tryd.prog 13 #[.pointer (some ⟨gd, 0, none⟩)] W fun e W' => ∃ g T', e = .returned (.tuple #[.pointer (some ⟨g, 0, none⟩), .int .i64 0]) ∧ FilG w s' sd' ws g gd T' v W' ∧ Turn T W W' ∧ ∀ i, T' i → T i ∨ W.heap.size ≤ i := by
  obtain ⟨Y, Z, _, hz, _, _, hZT⟩ := js_new h.js
  refine (js_open (hT.below h.old) hz ho).mono ?_
  rintro e W' ⟨g, T', rfl, h1, ht, h3⟩
  have ht' : Turn T W W' := ht.mono fun i _ hi => hZT i hi
  refine ⟨g, T', rfl, ⟨h1, fun i hi => ?_, Turn.own ht' h.row (fun i hi => h.rt i hi), fun i hi hz' => ?_, below_turn h.old (Nat.le_refl _) ht' h.tb⟩, ht', fun i hi => (h3 i hi).imp (hZT i) id⟩
  · rcases h3 i hi with h' | h'
    · exact h.tb i (hZT i h')
    · exact Nat.le_trans h.old.size h'
  · rcases h3 i hz' with h' | h'
    · exact h.rt i hi (hZT i h')
    · have := (h.row.lt i hi).2
      omega
/-- One text more in the row. -/
theorem FilG.app (h : FilG w s sd ws gj gd T v W) (b : List UInt8) (hn : ws.length < 900000) :
    ∃ A c W', (Builtin.append_ #[35, 35] 35 #[v, .slice (some ⟨W.heap.size, 0, none⟩) 1 1]).run Tryd.prog (W.alloc (.cells #[.string ⟨b.toArray⟩] 9)) = .ok (.slice A (ws.length + 1) c) W' ∧ FilG w s sd (ws ++ [b]) gj gd T (.slice A (ws.length + 1) c) W' := by
  obtain ⟨v', W', hrun, ho, hg, hv⟩ := app_text h.old.size h.row b hn
  have t : Turn (fun i => v.ownBlock = some i) W W' := (Turn.refl _ _).grown hg (fun k hk _ => hk)
  obtain ⟨A, c, rfl, _⟩ := own_len ho
  have hlen : (ws ++ [b]).length = ws.length + 1 := by simp
  refine ⟨A, c, W', hrun, ⟨h.js.turn t (fun i hi he => h.rt i he hi), h.tb, by rw [hlen]; exact ho, fun i hi hz => ?_, below_turn h.old (Nat.le_refl _) t (fun i hi => (h.row.lt i hi).1)⟩⟩
  rcases hv with e | ⟨g, e, hge⟩
  · exact h.rt i (e ▸ hi) hz
  · rw [e] at hi
    injection hi with hi
    have := h.js.lt i hz
    omega
end
/-- The state between two messages. -/
def FilR (w : World) (l : List (List UInt8)) (gd : Nat) (r v : Value) (W : World) : Prop :=
  ∃ gj T p A c, r = .pointer (some ⟨gj, 0, none⟩) ∧ v = .slice A l.length c ∧ FilG w (jL l) ((sF 1048576 l).brk p) l gj gd T v W
/-- What is kept can be read, and is short. -/
def FilOk (l : List (List UInt8)) (k : Nat) : Prop := l.length ≤ k ∧ ∀ x ∈ l, x.length ≤ 20000 ∧ ∃ r, readP x = .ok r
theorem FilOk.snoc {l : List (List UInt8)} {k : Nat} {b : List UInt8} (h : FilOk l k) (h1 : b.length ≤ 20000) (h2 : ∃ r, readP b = .ok r) : FilOk (l ++ [b]) (k + 1) :=
  ⟨by rw [List.length_append, List.length_singleton]; have := h.1; omega, fun x hx => by
    rcases List.mem_append.1 hx with hx | hx
    · exact h.2 x hx
    · rw [List.mem_singleton.1 hx]
      exact ⟨h1, h2⟩⟩
theorem FilOk.mono {l : List (List UInt8)} {k k' : Nat} (h : FilOk l k) (hk : k ≤ k') : FilOk l k' := ⟨Nat.le_trans h.1 hk, h.2⟩
theorem FilOk.recs {l : List (List UInt8)} {k : Nat} (h : FilOk l k) : (recsT zeroD l).length ≤ 20035 * k := by
  have h1 := flat_le (l := l) (m := 20000) fun x hx => (h.2 x hx).1
  rw [recsT_length]
  have := h.1
  have h2 : 20035 * l.length ≤ 20035 * k := Nat.mul_le_mul_left _ this
  omega
theorem FilOk.small {l : List (List UInt8)} {k : Nat} (h : FilOk l k) : ∀ x ∈ l, x.length < 16777216 := fun x hx => by have := (h.2 x hx).1; omega
theorem write_short {r : Raw} (hf : r.Fit) (hd : r.data.length ≤ 2000) (hl : r.list.length = 0) : (writeM r.m).length ≤ 20000 := by
  have hok := hf.ok
  have hp : ∀ p ∈ parts r.m, p.length ≤ 2048 := fun p hp => by
    have h6 : (256 : Nat) ^ 6 = 281474976710656 := by decide
    have hnum : ∀ n, n ≤ 1099511627776 → (digits n).length ≤ 2048 := fun n hn => Nat.le_trans (digits_length 6 n (by omega)) (by omega)
    simp only [parts, List.mem_cons, List.not_mem_nil, or_false] at hp
    rcases hp with rfl | rfl | rfl | rfl | rfl | rfl | rfl | rfl | rfl
    · exact hnum _ hok.who
    · exact hnum _ hok.height
    · exact hnum _ hok.round
    · exact hnum _ hok.valid
    · exact hnum _ hok.num
    · exact Nat.le_trans (idPart_length hok.id) (by omega)
    · show r.data.length ≤ 2048
      omega
    · have h1 := flatten32 r.m.ids hok.ids32
      have h2 := hok.ids
      omega
    · have : r.m.list = [] := List.eq_nil_of_length_eq_zero hl
      rw [this]
      simp
  have := body_len 1 (parts r.m) 2048 hp
  rw [parts_length] at this
  rw [writeM, List.length_cons]
  omega
theorem new_1m (w : World) : Calls Tryd.prog 11 #[.int .i64 1048576] w fun e w' => e = .returned (.tuple #[.pointer (some ⟨w.heap.size, 0, none⟩), .int .i64 0]) ∧ SlabAt w' (fun i => i = w.heap.size) w.heap.size ⟨1048576, [], 0, -1⟩ ∧ Below w.heap.size w w' := by
  have h := slabNew_any 1048576 (by omega) w
  rw [Int.cast_ofNat_Int] at h
  exact h
theorem neq_strF (a : List UInt8) (w : World) : (binOp .neq 9 (.string ⟨a.toArray⟩) (.string ⟨a.toArray⟩)).run Tryd.prog w = .ok (.bool false) w := by
  have := neq_str a a w
  rw [beq_self_eq_true] at this
  exact this
end Go.Proofs.YtkbdkeclbokhdaaDoor
