/-
  pack.cutRun: for all bytes, in whatever memory: what the run has with which they begin, and what is behind it; or that it isn't there whole.
-/
import Derived.Test.YtkbdkeclbokhdaaDoorJrnFirst
import Derived.Test.YtkbdkeclbokhdaaDoorQ10
import Derived.Test.YtkbdkeclbokhdaaDoorQ12
import Derived.Test.YtkbdkeclbokhdaaDoorPackGrow
import Derived.Test.YtkbdkeclbokhdaaDoorPackStr
import Derived.Deep.QuietTactic
import Derived.BigQuiet
import Derived.Outline
namespace Go.Proofs.YtkbdkeclbokhdaaDoor
open Go Go.RowKit PackMath

set_option maxRecDepth 100000 in
set_option maxHeartbeats 1000000 in
theorem cutRun_ge (A : Option Addr) (n c : Nat) (a b d : UInt8) (s : List UInt8) (hn : s.length + 3 = n) (ok : Nat → Prop) (w : World) (hr : RdB w ok (.slice A n c) (a :: b :: d :: s)) :
    Calls Tryd.prog 75 #[.slice A n c] w fun e w' => (s.length < a.toNat * 65536 + b.toNat * 256 + d.toNat → e = .returned (.tuple #[.slice none 0 0, .slice none 0 0, .bool false])) ∧
      (a.toNat * 65536 + b.toNat * 256 + d.toNat ≤ s.length → ∃ A1 c1 A2 c2, e = .returned (.tuple #[.slice A1 (a.toNat * 65536 + b.toNat * 256 + d.toNat) c1, .slice A2 (s.length - (a.toNat * 65536 + b.toNat * 256 + d.toNat)) c2, .bool true]) ∧
        RdB w ok (.slice A1 (a.toNat * 65536 + b.toNat * 256 + d.toNat) c1) (s.take (a.toNat * 65536 + b.toNat * 256 + d.toNat)) ∧ RdB w ok (.slice A2 (s.length - (a.toNat * 65536 + b.toNat * 256 + d.toNat)) c2) (s.drop (a.toNat * 65536 + b.toNat * 256 + d.toNat))) ∧ Below w.heap.size w w' := by
  have hr3 := hr.cut (k := 3) (by omega)
  have ecut : (a :: b :: d :: s).drop 3 = s := rfl
  rw [ecut, show n - 3 = s.length by omega] at hr3
  have HR3 := Lib.hid hr3
  obtain ⟨ad, rfl, c0⟩ := hr.getc (j := 0) (by simp)
  obtain ⟨_, e1, c1⟩ := hr.getc (j := 1) (by simp)
  injection e1 with e1
  subst e1
  obtain ⟨_, e1, c2⟩ := hr.getc (j := 2) (by simp)
  injection e1 with e1
  subst e1
  have ha := a.toNat_lt
  have hb := b.toNat_lt
  have hd := d.toNat_lt
  have hnc : n ≤ 140737488351232 ∧ n ≤ c := by
    obtain ⟨A', c', hv, h1, h2, h3⟩ := hr
    injection hv with e1 e2 e3
    simp at h1 h2
    omega
  obtain ⟨hnc, hcc⟩ := hnc
  have h3n : decide ((n : Int) < 3) = false := decide_eq_false (by omega)
  have hm1 : 0 < n := by omega
  have hm2 : 1 < n := by omega
  have hm3 : 2 < n := by omega
  have hn1 : (0 : Int) < (n : Int) := by omega
  have hn2 : (1 : Int) < (n : Int) := by omega
  have hn3 : (2 : Int) < (n : Int) := by omega
  unfold bv at c0 c1 c2
  simp only [List.getD_cons_zero, List.getD_cons_succ] at c0 c1 c2
  rw [show ad.add 0 = ad by simp [Addr.add]] at c0
  rw [addr1] at c1
  rw [addr2] at c2
  have w1 : IntKind.i64.wrap (a.toNat : Int) = (a.toNat : Int) := by rw [IntKind.wrap_i64]; omega
  have w2 : IntKind.i64.wrap (b.toNat : Int) = (b.toNat : Int) := by rw [IntKind.wrap_i64]; omega
  have w3 : IntKind.i64.wrap (d.toNat : Int) = (d.toNat : Int) := by rw [IntKind.wrap_i64]; omega
  have w4 : IntKind.i64.wrap ((a.toNat : Int) * 65536) = (a.toNat : Int) * 65536 := by rw [IntKind.wrap_i64]; omega
  have w5 : IntKind.i64.wrap ((b.toNat : Int) * 256) = (b.toNat : Int) * 256 := by rw [IntKind.wrap_i64]; omega
  obtain ⟨N, hN⟩ : ∃ N, a.toNat * 65536 + b.toNat * 256 + d.toNat = N := ⟨_, rfl⟩
  have b1 : bits .or .i64 ((a.toNat : Int) * 65536) ((b.toNat : Int) * 256) = ((a.toNat * 65536 + b.toNat * 256 : Nat) : Int) := by
    have := or_join 16 (a.toNat * 65536) (b.toNat * 256) (by omega) (by omega) (by omega) (by omega)
    rw [← this, Int.natCast_mul, Int.natCast_mul]
    rfl
  have b2 : bits .or .i64 ((a.toNat * 65536 + b.toNat * 256 : Nat) : Int) (d.toNat : Int) = (N : Int) := by
    rw [or_join 8 _ _ (by omega) (by omega) (by omega) (by omega), hN]
  obtain ⟨x, hx⟩ : ∃ x, ((a.toNat * 65536 + b.toNat * 256 : Nat) : Int) = x := ⟨_, rfl⟩
  rw [hx] at b1 b2
  have hN24 : N < 16777216 := by omega
  have hs3 : ∀ w', (Instr.sliceAt 42 (.slice (some ad) n c) (some (.int .i64 3)) none none).run Tryd.prog w' = .ok (.slice (cutA (some ad) c 3) s.length (c - 3)) w' := fun w' => by
    have := run_slice_from (P := Tryd.prog) 42 5 Tryd.underlying42 (by kernel_rfl) (some ad) n c 3 (by omega) w'
    rw [show n - 3 = s.length by omega] at this
    exact this
  rw [hN]
  clear hx hN hr ecut hr3
  obtain ⟨m, hm⟩ : ∃ m, s.length = m := ⟨_, rfl⟩
  rw [hm] at hs3 HR3 hn ⊢
  obtain ⟨A3, hA3⟩ : ∃ A3, cutA (some ad) c 3 = A3 := ⟨_, rfl⟩
  rw [hA3] at hs3 HR3
  have HM := Lib.hid hm
  clear hA3 hm
  go_enter Tryd.func75, Tryd.ntmps75
  go_wp2
  go_quiet (fail)
  have hbd : Below w.heap.size w (w.drewN nq) := below_drewN (Below.refl _ _) nq
  have HB := Lib.hid hbd
  have HMC : Hid (m ≤ c - 3) := Lib.hid (by omega)
  clear c0 c1 c2 b1 b2 w1 w2 w3 w4 w5 h3n hm1 hm2 hm3 hn1 hn2 hn3 hbd ha hb hd
  generalize w.drewN nq = W at *
  by_cases hlt : m < N
  · have hli : (m : Int) < (N : Int) := by omega
    go_wp2
    go_ret3
    exact ⟨fun _ => rfl, fun h => absurd h (by omega), HB.out⟩
  · have hli : decide ((m : Int) < (N : Int)) = false := decide_eq_false (by omega)
    have hto := fun w' => run_slice_to (P := Tryd.prog) 42 5 Tryd.underlying42 (by kernel_rfl) A3 m (c - 3) N (by have := HMC.out; omega) w'
    have hfr := fun w' => run_slice_from (P := Tryd.prog) 42 5 Tryd.underlying42 (by kernel_rfl) A3 m (c - 3) N (by omega) w'
    go_wp2
    go_quiet (fail)
    go_wp2
    go_ret3
    have hNm : N ≤ m := by omega
    exact ⟨fun h => absurd h (by omega), fun _ => ⟨_, _, _, _, rfl, HR3.out.firsts hNm, HR3.out.cut hNm⟩, HB.out.trans (below_drewN (Below.refl _ _) _ |>.mono HB.out.size)⟩
theorem cutRun_lt (A : Option Addr) (n c : Nat) (hn : n < 3) (w : World) : Calls Tryd.prog 75 #[.slice A n c] w fun e w' => e = .returned (.tuple #[.slice none 0 0, .slice none 0 0, .bool false]) ∧ w' = w := by
  have h3 : (n : Int) < 3 := by omega
  go_enter Tryd.func75, Tryd.ntmps75
  go_wp2
  go_ret3
  exact ⟨rfl, rfl⟩
/-- What cutRun hands back. -/
def CutOut (w : World) (ok : Nat → Prop) (bs : List UInt8) (e : Ending) : Prop :=
  match take3 bs with
  | none => e = .returned (.tuple #[.slice none 0 0, .slice none 0 0, .bool false])
  | some (x, r) => ∃ A1 c1 A2 c2, e = .returned (.tuple #[.slice A1 x.length c1, .slice A2 r.length c2, .bool true]) ∧ RdB w ok (.slice A1 x.length c1) x ∧ RdB w ok (.slice A2 r.length c2) r
theorem cutRun_any (A : Option Addr) (c : Nat) (bs : List UInt8) (ok : Nat → Prop) (w : World) (hr : RdB w ok (.slice A bs.length c) bs) :
    Calls Tryd.prog 75 #[.slice A bs.length c] w fun e w' => CutOut w ok bs e ∧ Below w.heap.size w w' := by
  match bs, hr with
  | [], _ =>
    refine (cutRun_lt A 0 c (by omega) w).mono ?_
    rintro e w' ⟨rfl, rfl⟩
    exact ⟨rfl, Below.refl _ _⟩
  | [a], _ =>
    refine (cutRun_lt A 1 c (by omega) w).mono ?_
    rintro e w' ⟨rfl, rfl⟩
    exact ⟨rfl, Below.refl _ _⟩
  | [a, b], _ =>
    refine (cutRun_lt A 2 c (by omega) w).mono ?_
    rintro e w' ⟨rfl, rfl⟩
    exact ⟨rfl, Below.refl _ _⟩
  | a :: b :: d :: s, hr =>
    refine (cutRun_ge A _ c a b d s (by simp) ok w hr).mono ?_
    rintro e w' ⟨h1, h2, hb⟩
    refine ⟨?_, hb⟩
    unfold CutOut
    by_cases h : a.toNat * 65536 + b.toNat * 256 + d.toNat ≤ s.length
    · have e1 : take3 (a :: b :: d :: s) = some (s.take (a.toNat * 65536 + b.toNat * 256 + d.toNat), s.drop (a.toNat * 65536 + b.toNat * 256 + d.toNat)) := by simp only [take3]; rw [if_pos h]
      rw [e1]
      obtain ⟨A1, c1, A2, c2, he, hx, hr'⟩ := h2 h
      have l1 : (s.take (a.toNat * 65536 + b.toNat * 256 + d.toNat)).length = a.toNat * 65536 + b.toNat * 256 + d.toNat := by rw [List.length_take]; omega
      have l2 : (s.drop (a.toNat * 65536 + b.toNat * 256 + d.toNat)).length = s.length - (a.toNat * 65536 + b.toNat * 256 + d.toNat) := List.length_drop
      simp only
      exact ⟨A1, c1, A2, c2, by rw [he, l1, l2], by rw [l1]; exact hx, by rw [l2]; exact hr'⟩
    · have e1 : take3 (a :: b :: d :: s) = none := by simp only [take3]; rw [if_neg h]
      rw [e1]
      exact h1 (by omega)
set_option maxRecDepth 100000 in
set_option maxHeartbeats 1000000 in
theorem bclone_any (A : Option Addr) (c : Nat) (bs : List UInt8) (w : World) (hr : RdB w (fun b => b < w.heap.size) (.slice A bs.length c) bs) :
    Calls Tryd.prog 78 #[.slice A bs.length c] w fun e w' => ∃ A' c', e = .returned (.slice A' bs.length c') ∧ RdB w' (fun b => w.heap.size ≤ b ∧ b < w'.heap.size) (.slice A' bs.length c') bs ∧ Below w.heap.size w w' := by
  cases A with
  | none =>
    have hn : bs = [] := by
      rcases Nat.eq_zero_or_pos bs.length with h | h
      · exact List.eq_nil_of_length_eq_zero h
      · obtain ⟨A', c', hv, h1, h2, h3⟩ := hr
        injection hv with e1 e2 e3
        subst e1
        obtain ⟨_, h, _⟩ := h3 h
        cases h
    subst hn
    have heq : ∀ w', (binOp .eql 42 (.slice none 0 c) (.slice none 0 0)).run Tryd.prog w' = .ok (.bool true) w' := fun w' => Lib.run_eql_slice_nil w' 42 5 none 0 c 0 0 Tryd.underlying42
    go_enter Tryd.func78, Tryd.ntmps78
    go_wp2
    go_ret
    exact ⟨none, 0, rfl, ⟨none, 0, rfl, Nat.le_refl _, Nat.zero_le _, fun h => absurd h (by simp)⟩, Below.refl _ _⟩
  | some ad =>
    have heq : ∀ w', (binOp .eql 42 (.slice (some ad) bs.length c) (.slice none 0 0)).run Tryd.prog w' = .ok (.bool false) w' := fun w' => Lib.run_eql_slice_nil w' 42 5 (some ad) bs.length c 0 0 Tryd.underlying42
    have hl : bs.length ≤ 140737488351232 := by
      obtain ⟨A', c', hv, h1, h2, h3⟩ := hr
      exact h2
    have hb0 : Below w.heap.size w (w.alloc (.cells #[] 5)) := (Below.refl _ _).alloc (Nat.le_refl _) _
    have own0 : (w.alloc (.cells #[] 5)).ownsRow w.heap.size 5 1 (.slice (some ⟨w.heap.size, 0, none⟩) 0 0) 0 (([] : List UInt8).map bv) := ⟨rfl, .inr ⟨w.heap.size, 0, #[], rfl, Nat.le_refl _, heap_alloc_new w _, Nat.le_refl _, by unfold maxLen; omega, rfl, rfl⟩⟩
    obtain ⟨i0, hi, hz0, hz1, hz2⟩ := info_parts info_u8
    obtain ⟨v', w', hrun, hown', hgr, _⟩ := run_append_rd (P := Tryd.prog) (w.alloc (.cells #[] 5)) w.heap.size 42 42 5 i0 (.int .u8 0) Tryd.underlying42 hi hz0 hz1 hz2 rfl _ 0 _ own0 _ (some ad) bs.length c bs (hr.kept fun a x ha h => (hb0.cell (p := a) ha).trans h) (by omega) (by simp)
    rw [List.map_nil, List.nil_append, Nat.zero_add] at hown'
    have hb : Below w.heap.size w w' := hb0.grown hgr (by simp) fun k hk => by
      simp only [Value.ownBlock, Option.some.injEq] at hk
      omega
    have hrd := rdB_own hown' rfl hl
    obtain ⟨A', c', rfl⟩ : ∃ A' c', v' = .slice A' bs.length c' := by
      rcases ownsRow_forms' hown' with ⟨rfl, h0⟩ | ⟨g, cap, rfl⟩
      · exact ⟨none, 0, by rw [h0]⟩
      · exact ⟨_, _, rfl⟩
    have HR := Lib.hid hrun
    have HB := Lib.hid hb
    have HRD := Lib.hid hrd
    clear hrun hb hrd hown' hgr own0 hb0 hi hz0 hz1 hz2 hr hl
    go_enter Tryd.func78, Tryd.ntmps78
    go_wp2_with (at_builtin; refine wpList_append_run rfl (.tmp 5) (.tmp 6) _ _ rfl _ _ rfl rfl _ _ HR.out ?_)
    go_ret
    exact ⟨A', c', rfl, HRD.out, HB.out⟩
end Go.Proofs.YtkbdkeclbokhdaaDoor
