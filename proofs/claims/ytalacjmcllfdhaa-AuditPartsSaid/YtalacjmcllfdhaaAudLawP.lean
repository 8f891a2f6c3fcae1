/-
  The law AuditParts. In whatever memory. No condition.
-/
import Derived.Test.YtalacjmcllfdhaaAudGrd
namespace Go.Proofs.Ytalacjmcllfdhaa
open Go Go.RowKit Go.Shelf Go.Maps
attribute [local go_sem] Oper.semAt_some

theorem yields_loadA {P : Program} {ops : Array Oper} {S : World → Prop} {op : Oper} {a : Act} (hw : Region.wanted op (yielded ops a.tmps) = true) (ty : TypeId) (x : Operand) (ho : op.op = .load ty x) (p : Value) (hx : a.eval x = p) (v : Value) (hS : ∀ w, S w → (Instr.loadAt ty p).run P w = .ok v w) : YieldsIf P ops S op v a :=
  .inl ⟨hw, fun w hw' => by
    unfold execOp
    simp only [ho, hx, Sem.run_bind, hS w hw', Sem.run_pure, Result.andThen_ok]⟩
theorem int_sizeA (w : World) : (sizeOf 3).run Try.prog w = .ok 1 w := by kernel_rfl
theorem eql_intA (d : Nat) (n : Int) (w : World) : (Op.equalIn (d + 1) 3 (.int .i64 n) (.int .i64 n)).run Try.prog w = .ok true w := by
  simp [Op.equalIn, run_underlying Try.underlying3]
theorem eql_trip (d : Nat) (r s u : Int) (w : World) : (Op.equalIn (d + 2) 32 (.agg #[.int .i64 r, .int .i64 s, .int .i64 u]) (.agg #[.int .i64 r, .int .i64 s, .int .i64 u])).run Try.prog w = .ok true w := by
  rw [Op.equalIn]
  have e : List.range' 0 3 1 = [0, 1, 2] := rfl
  simp only [Sem.run_bind, run_underlying Try.underlying32, Result.andThen_ok, int_sizeA, Std.Legacy.Range.forIn_eq_forIn_range', Std.Legacy.Range.size, Nat.sub_zero, Nat.add_sub_cancel, Nat.div_one, e]
  simp [part, isAgg, run_underlying Try.underlying3, eql_intA, Sem.run_bind]
theorem neq_trip (r s u : Int) (w : World) : (binOp .neq 32 (.agg #[.int .i64 r, .int .i64 s, .int .i64 u]) (.agg #[.int .i64 r, .int .i64 s, .int .i64 u])).run Try.prog w = .ok (.bool false) w := by
  have := eql_trip 9998 r s u w
  go_simp
  first | done | (rw [this]; rfl)
theorem pre_at {α : Type} {pre l : List α} {x : α} (h : (pre ++ [x]) <+: l) : l[pre.length]? = some x := by
  obtain ⟨t, rfl⟩ := h
  rw [List.append_assoc, List.getElem?_append_right (Nat.le_refl _), Nat.sub_self]
  rfl
theorem RdPP.mono2 {W : World} {B B' : Nat} {A : Option Addr} {L : List (List (List UInt8))} (h : RdPP W (fun b => b < B) A L) (hB : B ≤ B') : RdPP W (fun b => b < B') A L := fun k hk => by
  obtain ⟨ad, A', c', h1, h2, h3, h4, h5⟩ := h k hk
  exact ⟨ad, A', c', h1, Nat.lt_of_lt_of_le h2 hB, h3, h4, h5.mono fun b hb => Nat.lt_of_lt_of_le hb hB⟩
/-- Between two parts. -/
def LawPI (w W6 : World) (nb wb d B Bw : Nat) (most : Int) (v : Value) (T : List (Nat × Nat × Nat)) (pre : List (Nat × Nat × Nat)) (W' : World) : Prop :=
  Blk W' nb 3 #[.int .i64 (pre.length : Int)] ∧ Blk W' (w.heap.size + 1) 4 #[.bool false] ∧ Blk W' wb 25 #[v] ∧ Blk W' w.heap.size 3 #[.int .i64 most] ∧ SameP W6 d B W' ∧ RdC 3 W' (fun b => b < Bw ∧ b ≠ nb) v (tripsC T) ∧ Below w.heap.size w W'
theorem LawPI.below {w W6 W' W2 : World} {nb wb d B Bw : Nat} {most : Int} {v : Value} {T pre : List (Nat × Nat × Nat)} (h : LawPI w W6 nb wb d B Bw most v T pre W') (hb : Below W6.heap.size W' W2) (h1 : nb < W6.heap.size ∧ wb < W6.heap.size ∧ w.heap.size + 1 < W6.heap.size ∧ Bw ≤ W6.heap.size) : LawPI w W6 nb wb d B Bw most v T pre W2 :=
  ⟨h.1.below hb h1.1, h.2.1.below hb h1.2.2.1, h.2.2.1.below hb h1.2.1, h.2.2.2.1.below hb (by omega), h.2.2.2.2.1.below hb, h.2.2.2.2.2.1.kept fun a x ha hx => (hb.cell (p := a) (by omega)).trans hx, h.2.2.2.2.2.2.trans (hb.mono (by omega))⟩
theorem LawPI.next {w W6 W' : World} {nb wb d B Bw : Nat} {most : Int} {v : Value} {T pre : List (Nat × Nat × Nat)} {x : Nat × Nat × Nat} {q : Nat} (h : LawPI w W6 nb wb d B Bw most v T pre W') (hq : pre.length = q) (h1 : w.heap.size + 1 < nb ∧ nb ≠ wb ∧ nb ≠ d ∧ nb < B) : LawPI w W6 nb wb d B Bw most v T (pre ++ [x]) (W'.setCell ⟨nb, 0, none⟩ (.int .i64 ((q : Int) + 1))) := by
  have hk : Keep (fun b => b = nb) W' (W'.setCell ⟨nb, 0, none⟩ (.int .i64 ((q : Int) + 1))) := .setCell _ _ _ rfl
  refine ⟨(h.1.store 0 _).same ?_, h.2.1.kept hk (by omega), h.2.2.1.kept hk (by omega), h.2.2.2.1.kept hk (by omega), h.2.2.2.2.1.kept hk h1.2.2.1 h1.2.2.2, h.2.2.2.2.2.1.kept fun a x ha hx => cell_keep hk (by omega) hx, h.2.2.2.2.2.2.setCell (by simp; omega) _⟩
  rw [List.length_append, List.length_singleton, hq]
  rfl
set_option maxRecDepth 100000 in
set_option maxHeartbeats 60000000 in
theorem parts_law (A : Option Addr) (c : Nat) (L : List (List (List UInt8))) (most : Int) (w : World) (hm : L.length ≤ 140737488351232) (hr : RdPP w (fun b => b < w.heap.size) A L) :
    Calls Try.prog 3 #[.slice A L.length c, .int .i64 most] w fun e w' => e = .returned (.bool true) ∧ Below w.heap.size w w' := by
  have HR := Lib.hid hr
  obtain ⟨n, hn⟩ : ∃ n, L.length = n := ⟨_, rfl⟩
  have HN := Lib.hid hn
  rw [hn] at hm ⊢
  obtain ⟨W1, hW1⟩ : ∃ z, (w.alloc (.cells #[.int .i64 most] 3)).alloc (.cells #[.bool false] 4) = z := ⟨_, rfl⟩
  have hb1 : Below w.heap.size w W1 := by rw [← hW1]; exact ((Below.refl _ _).alloc (Nat.le_refl _) _).alloc (by simp) _
  have k0 : Blk W1 w.heap.size 3 #[.int .i64 most] := by rw [← hW1]; exact (Blk.newAt _ _ rfl rfl).alloc _
  have k1 : Blk W1 (w.heap.size + 1) 4 #[.bool false] := by rw [← hW1]; exact Blk.newAt _ _ (by simp) rfl
  have H1 := Lib.hid (And.intro hb1 (And.intro k0 k1))
  have HW1 := Lib.hid hW1
  clear hr hn hb1 k0 k1 hW1
  refine (callsIn_wide (n := 0)).1 ?_
  refine callsIn_of_wp_marks Try.func3 rfl trivial ?_ rfl
  simp only [Try.ntmps3, List.size_toArray, List.length_cons, List.length_nil, Nat.reduceAdd, Nat.reduceSub, Array.replicate_succ, Array.replicate_zero, List.push_toArray, List.append_toArray, List.nil_append, List.cons_append]
  refine wpIn_wide.2 ?_
  go_upto_region 1 with fail
  rw [HW1.out]
  go_upto_region 3 with (go_at_call 5; refine (finds_any W1).mono ?_; rintro e W2 ⟨rfl, hb2⟩; have H2 := Lib.hid (And.intro (H1.out.1.trans (hb2.mono H1.out.1.size)) (And.intro (H1.out.2.1.below hb2 H1.out.2.1.lt) (H1.out.2.2.below hb2 H1.out.2.2.lt))); clear hb2)
  have c0 : W2.cell? ⟨w.heap.size + 1, 0, none⟩ = some (.bool false) := by rw [H2.out.2.2.cell]; rfl
  have f0 : W2.frozen? ⟨w.heap.size + 1, 0, none⟩ = false := H2.out.2.2.frozen 0
  have HFW := Lib.hid (few_any A c L _ W2 (HR.out.old H2.out.1) (by rw [HN.out]; exact hm))
  rw [HN.out] at HFW
  clear HW1
  by_cases hfew : FewL L
  case neg =>
    have HFE := Lib.hid hfew
    clear hfew
    go_wp2_with (go_at_call 6; refine HFW.out.mono ?_; rintro e W3 ⟨b, rfl, hb, rfl⟩; have hb0 : b = false := (by cases b with | false => rfl | true => exact absurd (hb.1 rfl) HFE.out); subst hb0; clear hb)
    exact ⟨.bool true, results_cell1 rfl _ _ ⟨w.heap.size + 1, 0, none⟩ _ rfl (loadVar_oneA Try.underlying4 rfl (by rw [(H2.out.2.2.store 0 (.bool true)).cell]; rfl)), rfl, H2.out.1.setCell (by simp) _⟩
  case pos =>
    have HFE := Lib.hid hfew
    clear hfew
    have HRP := Lib.hid (refParts_any A c L W2 ((HR.out.old H2.out.1).mono2 H2.out.1.size) HFE.out)
    rw [HN.out] at HRP
    go_upto_region 5 with (go_at_call 6; refine HFW.out.mono ?_; rintro e W3 ⟨b, rfl, hb, rfl⟩; have hb0 : b = true := hb.2 HFE.out; subst hb0; clear hb)
    clear HFW c0 f0
    go_upto_region 6 with (go_at_call 7; refine HRP.out.mono ?_; rintro e W3 ⟨v, rfl, hv⟩; obtain ⟨Av, cv, rfl, _⟩ := own_len hv.1; have HV := Lib.hid hv; clear hv)
    generalize hW4 : World.alloc W3 _ = W4
    obtain ⟨N, hNN⟩ : ∃ z, (partsL L).length = z := ⟨_, rfl⟩
    obtain ⟨wb, hwb⟩ : ∃ z, W3.heap.size = z := ⟨_, rfl⟩
    have HTN := Lib.hid hNN
    have hN100 : N ≤ 100 := by
      have h1 := partsOf_len L (pairsL L.length)
      have h2 := rowsTo_len L.length L.length
      have h3 : L.length * L.length ≤ 8 * 8 := Nat.mul_le_mul HFE.out.1 HFE.out.1
      unfold partsL at hNN
      unfold pairsL at h1 hNN
      omega
    have H4 : Hid (Below w.heap.size w W4 ∧ Blk W4 w.heap.size 3 #[.int .i64 most] ∧ Blk W4 (w.heap.size + 1) 4 #[.bool false] ∧ Blk W4 wb 25 #[.slice Av N cv] ∧ RdC 3 W4 (fun b => b < wb) (.slice Av N cv) (tripsC (partsL L)) ∧ w.heap.size + 1 < wb) := Lib.hid (by
      have hb4 : Below W3.heap.size W3 W4 := by rw [← hW4]; exact (Below.refl _ _).alloc (Nat.le_refl _) _
      have h2 := H2.out
      have hbv := HV.out.2
      have hk0 := (h2.2.1.below hbv h2.2.1.lt)
      have hk1 := (h2.2.2.below hbv h2.2.2.lt)
      refine ⟨h2.1.trans ((hbv.trans (hb4.mono hbv.size)).mono h2.1.size), hk0.below hb4 hk0.lt, hk1.below hb4 hk1.lt, ?_, ?_, by have := hk1.lt; omega⟩
      · rw [← hW4, ← hwb, ← hNN]
        exact Blk.newAt _ _ rfl rfl
      · have hrd := rdC_own HV.out.1 (tripsC_els _) (by unfold tripsC; rw [List.length_map]) (by rw [hNN]; omega)
        rw [hNN] at hrd
        exact (hrd.mono fun b hb => (by omega : b < wb)).kept fun a x ha hx => (hb4.cell (p := a) (by omega)).trans hx)
    rw [hwb, hNN]
    clear hW4 hwb hNN HV H2 HRP
    go_upto_region 7 with fail
    generalize hW5 : World.alloc W4 _ = W5
    obtain ⟨nb, hnb⟩ : ∃ z, W4.heap.size = z := ⟨_, rfl⟩
    have H5 : Hid (Below w.heap.size w W5 ∧ Blk W5 w.heap.size 3 #[.int .i64 most] ∧ Blk W5 (w.heap.size + 1) 4 #[.bool false] ∧ Blk W5 wb 25 #[.slice Av N cv] ∧ RdC 3 W5 (fun b => b < wb) (.slice Av N cv) (tripsC (partsL L)) ∧ w.heap.size + 1 < wb ∧ wb < nb ∧ Blk W5 nb 3 #[.int .i64 0] ∧ W5.heap.size = nb + 1) := Lib.hid (by
      have hb5 : Below W4.heap.size W4 W5 := by rw [← hW5]; exact (Below.refl _ _).alloc (Nat.le_refl _) _
      have h4 := H4.out
      have hwl := h4.2.2.2.1.lt
      refine ⟨h4.1.trans (hb5.mono h4.1.size), h4.2.1.below hb5 h4.2.1.lt, h4.2.2.1.below hb5 h4.2.2.1.lt, h4.2.2.2.1.below hb5 hwl, h4.2.2.2.2.1.kept fun a x ha hx => (hb5.cell (p := a) (by omega)).trans hx, h4.2.2.2.2.2, by omega, ?_, ?_⟩
      · rw [← hW5, ← hnb]
        exact Blk.newAt _ _ rfl rfl
      · rw [← hW5, ← hnb]
        simp)
    rw [hnb]
    clear hW5 hnb H4
    have HPT := Lib.hid (parts_any A c L W5 ((HR.out.old H5.out.1).mono2 H5.out.1.size) HFE.out)
    rw [HN.out] at HPT
    go_wp2_with (go_at_call 8; refine HPT.out.mono ?_; rintro e W6 ⟨d, g, E, rfl, hp1, hp2, hp3, hp4, hp5, hp6⟩; have HP := Lib.hid (And.intro hp1 (And.intro hp2 (And.intro hp4 (And.intro hp5 hp6)))); have HEL := Lib.hid hp3; clear hp1 hp2 hp3 hp4 hp5 hp6)
    clear HPT
    have HW6 : Hid (nb < W6.heap.size ∧ wb < W6.heap.size ∧ w.heap.size + 1 < W6.heap.size ∧ nb + 1 ≤ W6.heap.size ∧ w.heap.size + 1 < nb ∧ nb ≠ wb ∧ nb ≠ d ∧ nb < W5.heap.size) := Lib.hid (by
      have h1 := H5.out.2.2.2.2.2
      have h2 := HP.out.2.1
      have h3 := HP.out.2.2.2.2.size
      omega)
    have HTE : Hid (partsL E = partsL L) := Lib.hid HP.out.2.2.2.1
    refine (wpIn_wide (n := 0)).1 ?_
    refine wpIn_rangeFunc_D (gf := 15) (lb := #[.pointer (some ⟨d, 0, none⟩)]) rfl (enters_of Try.func15 (by kernel_rfl) rfl)
      (parts_seq d W5.heap.size g E (fun b => b = nb) W6 (by rw [HEL.out, ← HN.out]; exact HFE.out.1) HP.out.2.2.1 (fun b hb => by have := HW6.out; omega)) (fun _ => rfl)
      (LawPI w W6 nb wb d W5.heap.size (nb + 1) most (.slice Av N cv) (partsL L))
      (fun c pre W' => c = .exit 0 ∧ (pre.length : Int) = most ∧ LawPI w W6 nb wb d W5.heap.size (nb + 1) most (.slice Av N cv) (partsL L) pre W')
      (fun s A' B' hs hb => hs.below hb ⟨HW6.out.1, HW6.out.2.1, HW6.out.2.2.1, HW6.out.2.2.2.1⟩) (fun s W' hs => hs.2.2.2.2.1.inv HP.out.1) (fun c s A' B' hs hb => ⟨hs.1, hs.2.1, hs.2.2.below hb ⟨HW6.out.1, HW6.out.2.1, HW6.out.2.2.1, HW6.out.2.2.2.1⟩⟩) ?start
      (fun x a' W' => ∃ Bx, W6.heap.size ≤ Bx ∧ Blk W' Bx 31 #[.int .i64 (x.1 : Int), .int .i64 (x.2.1 : Int), .int .i64 (x.2.2 : Int)] ∧ a' = { tmps := #[.slice A n c, .int .i64 most, undef, .pointer (some ⟨w.heap.size, 0, none⟩), .pointer (some ⟨w.heap.size + 1, 0, none⟩), .pointer (some ⟨wb, 0, none⟩), .pointer (some ⟨nb, 0, none⟩), .pointer (some ⟨Bx, 0, none⟩), undef, undef, undef, .bool true, .bool false, .slice A n c, .bool true, .bool false, .slice A n c, .slice Av N cv, .slice A n c, .func (.func 15) #[] #[.pointer (some ⟨d, 0, none⟩)], .agg #[.int .i64 (x.1 : Int), .int .i64 (x.2.1 : Int), .int .i64 (x.2.2 : Int)], undef, undef, undef, undef, undef, undef, undef, undef, undef, undef, undef, undef, undef, undef, undef, undef, undef, undef, undef, undef, undef, undef, undef, undef, undef, undef, undef, undef, undef, undef, undef, undef, undef, undef, undef, undef, undef, undef, undef, undef, undef, undef, undef, undef, undef, undef], defers := [] })
      (fun x a' W' l o o' _ h1 h2 h3 => by
        obtain ⟨Bx, q1, q2, q3⟩ := h3
        exact ⟨Bx, q1, q2.putObj o' h1 h2, q3⟩) ?assign ?body ?done ?stop
    case start =>
      have h5 := H5.out
      have h6 := HP.out.2.2.2.2
      exact ⟨h5.2.2.2.2.2.2.2.1.below h6 h5.2.2.2.2.2.2.2.1.lt, h5.2.2.1.below h6 h5.2.2.1.lt, h5.2.2.2.1.below h6 h5.2.2.2.1.lt, h5.2.1.below h6 h5.2.1.lt, fun b o ho _ _ => ho, (h5.2.2.2.2.1.kept fun a x ha hx => (h6.cell (p := a) (by omega)).trans hx).mono fun b hb => ⟨by omega, by omega⟩, h5.1.trans (h6.mono h5.1.size)⟩
    case assign =>
      intro l pre x W' K hlt hpre hi hK
      have HI := Lib.hid hi
      have HSZ := Lib.hid hlt
      clear hi hlt hpre
      simp only [encT]
      gi_wp2
      have hbel : Below W'.heap.size W' (W'.alloc (.cells #[.int .i64 (x.1 : Int), .int .i64 (x.2.1 : Int), .int .i64 (x.2.2 : Int)] 31)) := (Below.refl _ _).alloc (Nat.le_refl _) _
      exact hK _ _ (keepsFrom_of_below hbel) (.of_below hbel) (HI.out.below (hbel.mono (by have := HSZ.out; omega)) ⟨HW6.out.1, HW6.out.2.1, HW6.out.2.2.1, HW6.out.2.2.2.1⟩) ⟨W'.heap.size, by have := HSZ.out; omega, Blk.newAt _ _ rfl rfl, rfl⟩
    case body =>
      rintro l pre x a' Wb hl hlt hpre hi ⟨Bx, hBx, hBk, rfl⟩
      rw [HTE.out] at hpre
      have hat := pre_at hpre
      obtain ⟨p0, p1, p2⟩ := x
      obtain ⟨q, hq⟩ : ∃ z, pre.length = z := ⟨_, rfl⟩
      have hqN : q < N := by
        rw [← HTN.out, ← hq]
        exact (List.getElem?_eq_some_iff.1 hat).1
      rw [hq] at hat
      dsimp only at hBk ⊢
      have hqi : (q : Int) < (N : Int) := by omega
      have hqi2 : decide ((N : Int) ≤ (q : Int)) = false := decide_eq_false (by omega)
      have hqi3 : decide (N ≤ q) = false := decide_eq_false (by omega)
      have hq0 : (0 : Int) ≤ (q : Int) := by omega
      have hq100 : (q : Int) ≤ 100 := by omega
      obtain ⟨adw, cw2, hadw, _, hadb, hcells⟩ := hi.2.2.2.2.2.1.here (j := q) (x := tripC (p0, p1, p2)) (by unfold tripsC; rw [List.getElem?_map, hat]; rfl)
      injection hadw with hA1 hA2 hA3
      subst hA1
      clear hA2 hA3
      have HI := Lib.hid hi
      have HQ := Lib.hid hq
      have HCN : Hid (∀ W'', Below Wb.heap.size Wb W'' → W''.cell? ⟨nb, 0, none⟩ = some (.int .i64 (q : Int))) := Lib.hid fun W'' hb => by rw [(HI.out.1.below hb HI.out.1.lt).cell, HQ.out]; rfl
      have HCW : Hid (∀ W'', Below Wb.heap.size Wb W'' → W''.cell? ⟨wb, 0, none⟩ = some (.slice (some adw) N cv)) := Lib.hid fun W'' hb => by rw [(HI.out.2.2.1.below hb HI.out.2.2.1.lt).cell]; rfl
      have HP0 : Hid (∀ W'', Below Wb.heap.size Wb W'' → W''.cell? ⟨Bx, 0, none⟩ = some (.int .i64 (p0 : Int))) := Lib.hid fun W'' hb => by rw [(hBk.below hb hBk.lt).cell]; rfl
      have HP1 : Hid (∀ W'', Below Wb.heap.size Wb W'' → W''.cell? ⟨Bx, 1, none⟩ = some (.int .i64 (p1 : Int))) := Lib.hid fun W'' hb => by rw [(hBk.below hb hBk.lt).cell]; rfl
      have HP2 : Hid (∀ W'', Below Wb.heap.size Wb W'' → W''.cell? ⟨Bx, 2, none⟩ = some (.int .i64 (p2 : Int))) := Lib.hid fun W'' hb => by rw [(hBk.below hb hBk.lt).cell]; rfl
      have HROW : Hid (∀ W'', Below Wb.heap.size Wb W'' → (Instr.loadAt 32 (.pointer (some (adw.add (q * 3))))).run Try.prog W'' = .ok (.agg #[.int .i64 (p0 : Int), .int .i64 (p1 : Int), .int .i64 (p2 : Int)]) W'') := Lib.hid fun W'' hb => run_load_el W'' 32 _ Try.underlying32 rfl (adw.add (q * 3)) (tripC (p0, p1, p2)) (by kernel_rfl) fun i hi2 => by
        have h3 : i < 3 := hi2
        have hc := hcells i h3
        have hx : (tripC (p0, p1, p2))[i]? = some ((tripC (p0, p1, p2))[i]'hi2) := List.getElem?_eq_getElem _
        rw [hx] at hc ⊢
        have hlt2 := block_lt_of_cell hc
        exact (hb.cell (p := (adw.add (q * 3)).add i) hlt2).trans hc
      have HCM : Hid (∀ W'' v, Below Wb.heap.size Wb W'' → (W''.setCell ⟨nb, 0, none⟩ v).cell? ⟨w.heap.size, 0, none⟩ = some (.int .i64 most)) := Lib.hid fun W'' v hb => by
        rw [((HI.out.2.2.2.1.below hb HI.out.2.2.2.1.lt).kept (own := fun b => b = nb) (.setCell _ _ _ rfl) (by have := HW6.out; omega)).cell]
        rfl
      have HCN2 : Hid (∀ W'' v, Below Wb.heap.size Wb W'' → (W''.setCell ⟨nb, 0, none⟩ v).cell? ⟨nb, 0, none⟩ = some v) := Lib.hid fun W'' v hb => by
        rw [((HI.out.1.below hb HI.out.1.lt).store 0 v).cell]
        rfl
      have HNEXT : Hid (∀ W'', Below Wb.heap.size Wb W'' → LawPI w W6 nb wb d W5.heap.size (nb + 1) most (.slice (some adw) N cv) (partsL L) (pre ++ [(p0, p1, p2)]) (W''.setCell ⟨nb, 0, none⟩ (.int .i64 ((q : Int) + 1)))) := Lib.hid fun W'' hb => (HI.out.below (hb.mono (Nat.le_trans (by omega) (Nat.le_of_lt (Nat.lt_of_le_of_lt hBx hBk.lt)))) ⟨HW6.out.1, HW6.out.2.1, HW6.out.2.2.1, HW6.out.2.2.2.1⟩).next HQ.out ⟨HW6.out.2.2.2.2.1, HW6.out.2.2.2.2.2.1, HW6.out.2.2.2.2.2.2.1, HW6.out.2.2.2.2.2.2.2⟩
      have hbX : Below Wb.heap.size Wb Wb.drew := (Below.refl _ _).drew
      clear hi hpre hat hq hadb hcells hBk hBx hl hlt
      gi_wp2
      refine region_round (S := fun W'' => Below Wb.heap.size Wb W'') (by kernel_rfl) (fun ⟨_, _, h⟩ => h) (by kernel_rfl) ?_ (fun hHeld => ?_)
      · exact hbX
      refine wpAnyH_take (i := 0) (oi := ⟨some 21, _, _, _, _, _⟩) (v := (.int .i64 (q : Int))) rfl (by kernel_rfl) (by kernel_rfl) (by kernel_rfl) (fun _ _ _ h => h) (Or.inl ⟨by rfl, fun W' hS => by have hcv := HCN.out W' hS; go_simp⟩) (by assumption) ?_
      try simp only [Act.put, List.setIfInBounds_toArray, List.set_cons_zero, List.set_cons_succ]
      refine wpAnyH_take (i := 1) (oi := ⟨some 22, _, _, _, _, _⟩) (v := (.slice (some adw) N cv)) rfl (by kernel_rfl) (by kernel_rfl) (by kernel_rfl) (fun _ _ _ h => h) (Or.inl ⟨by rfl, fun W' hS => by have hcv := HCW.out W' hS; go_simp⟩) (by assumption) ?_
      try simp only [Act.put, List.setIfInBounds_toArray, List.set_cons_zero, List.set_cons_succ]
      refine wpAnyH_take (i := 2) (oi := ⟨some 23, _, _, _, _, _⟩) (v := ?_) rfl (by kernel_rfl) (by kernel_rfl) (by kernel_rfl) (fun _ _ _ h => h) (Or.inl ⟨by rfl, ?_⟩) (by assumption) ?_
      rotate_left
      · intro w hSw; (try dsimp only at hSw); go_simp; try (with_reducible rfl)
      rotate_left 0
      try simp only [Act.put, List.setIfInBounds_toArray, List.set_cons_zero, List.set_cons_succ]
      refine wpAnyH_take (i := 3) (oi := ⟨some 24, _, _, _, _, _⟩) (v := ?_) rfl (by kernel_rfl) (by kernel_rfl) (by kernel_rfl) (fun _ _ _ h => h) (Or.inl ⟨by rfl, ?_⟩) (by assumption) ?_
      rotate_left
      · intro w hSw; (try dsimp only at hSw); go_simp; try (with_reducible rfl)
      rotate_left 0
      try simp only [Act.put, List.setIfInBounds_toArray, List.set_cons_zero, List.set_cons_succ]
      refine wpAnyH_take (i := 4) (oi := ⟨some 25, _, _, _, _, _⟩) (v := ?_) rfl (by kernel_rfl) (by kernel_rfl) (by kernel_rfl) (fun _ _ _ h => h) (Or.inl ⟨by rfl, ?_⟩) (by assumption) ?_
      rotate_left
      · intro w hSw; (try dsimp only at hSw); go_simp; try (with_reducible rfl)
      rotate_left 0
      try simp only [Act.put, List.setIfInBounds_toArray, List.set_cons_zero, List.set_cons_succ]
      refine wpAnyH_take (i := 5) (oi := ⟨some 26, _, _, _, _, _⟩) (v := ?_) rfl (by kernel_rfl) (by kernel_rfl) (by kernel_rfl) (fun _ _ _ h => h) (Or.inl ⟨by rfl, ?_⟩) (by assumption) ?_
      rotate_left
      · intro w hSw; (try dsimp only at hSw); go_simp; try (with_reducible rfl)
      rotate_left 0
      try simp only [Act.put, List.setIfInBounds_toArray, List.set_cons_zero, List.set_cons_succ]
      refine wpAnyH_take (i := 6) (oi := ⟨some 27, _, _, _, _, _⟩) (v := (.int .i64 (p0 : Int))) rfl (by kernel_rfl) (by kernel_rfl) (by kernel_rfl) (fun _ _ _ h => h) (Or.inl ⟨by rfl, fun W' hS => by have hcv := HP0.out W' hS; go_simp⟩) (by assumption) ?_
      try simp only [Act.put, List.setIfInBounds_toArray, List.set_cons_zero, List.set_cons_succ]
      refine wpAnyH_take (i := 7) (oi := ⟨some 28, _, _, _, _, _⟩) (v := ?_) rfl (by kernel_rfl) (by kernel_rfl) (by kernel_rfl) (fun _ _ _ h => h) (Or.inl ⟨by rfl, ?_⟩) (by assumption) ?_
      rotate_left
      · intro w hSw; (try dsimp only at hSw); go_simp; try (with_reducible rfl)
      rotate_left 0
      try simp only [Act.put, List.setIfInBounds_toArray, List.set_cons_zero, List.set_cons_succ]
      refine wpAnyH_take (i := 8) (oi := ⟨some 29, _, _, _, _, _⟩) (v := (.int .i64 (p1 : Int))) rfl (by kernel_rfl) (by kernel_rfl) (by kernel_rfl) (fun _ _ _ h => h) (Or.inl ⟨by rfl, fun W' hS => by have hcv := HP1.out W' hS; go_simp⟩) (by assumption) ?_
      try simp only [Act.put, List.setIfInBounds_toArray, List.set_cons_zero, List.set_cons_succ]
      refine wpAnyH_take (i := 9) (oi := ⟨some 30, _, _, _, _, _⟩) (v := ?_) rfl (by kernel_rfl) (by kernel_rfl) (by kernel_rfl) (fun _ _ _ h => h) (Or.inl ⟨by rfl, ?_⟩) (by assumption) ?_
      rotate_left
      · intro w hSw; (try dsimp only at hSw); go_simp; try (with_reducible rfl)
      rotate_left 0
      try simp only [Act.put, List.setIfInBounds_toArray, List.set_cons_zero, List.set_cons_succ]
      refine wpAnyH_take (i := 10) (oi := ⟨some 31, _, _, _, _, _⟩) (v := (.int .i64 (p2 : Int))) rfl (by kernel_rfl) (by kernel_rfl) (by kernel_rfl) (fun _ _ _ h => h) (Or.inl ⟨by rfl, fun W' hS => by have hcv := HP2.out W' hS; go_simp⟩) (by assumption) ?_
      try simp only [Act.put, List.setIfInBounds_toArray, List.set_cons_zero, List.set_cons_succ]
      refine wpAnyH_take (i := 11) (oi := ⟨some 32, _, _, _, _, _⟩) (v := ?_) rfl (by kernel_rfl) (by kernel_rfl) (by kernel_rfl) (fun _ _ _ h => h) (Or.inl ⟨by rfl, ?_⟩) (by assumption) ?_
      rotate_left
      · intro w hSw; (try dsimp only at hSw); go_simp; try (with_reducible rfl)
      rotate_left 0
      try simp only [Act.put, List.setIfInBounds_toArray, List.set_cons_zero, List.set_cons_succ]
      refine wpAnyH_take (i := 12) (oi := ⟨some 33, _, _, _, _, _⟩) (v := (.slice (some adw) N cv)) rfl (by kernel_rfl) (by kernel_rfl) (by kernel_rfl) (fun _ _ _ h => h) (Or.inl ⟨by rfl, fun W' hS => by have hcv := HCW.out W' hS; go_simp⟩) (by assumption) ?_
      try simp only [Act.put, List.setIfInBounds_toArray, List.set_cons_zero, List.set_cons_succ]
      refine wpAnyH_take (i := 13) (oi := ⟨some 34, _, _, _, _, _⟩) (v := (.int .i64 (q : Int))) rfl (by kernel_rfl) (by kernel_rfl) (by kernel_rfl) (fun _ _ _ h => h) (Or.inl ⟨by rfl, fun W' hS => by have hcv := HCN.out W' hS; go_simp⟩) (by assumption) ?_
      try simp only [Act.put, List.setIfInBounds_toArray, List.set_cons_zero, List.set_cons_succ]
      refine wpAnyH_take (i := 14) (oi := ⟨some 35, _, _, _, _, _⟩) (v := ?_) rfl (by kernel_rfl) (by kernel_rfl) (by kernel_rfl) (fun _ _ _ h => h) (Or.inl ⟨by rfl, ?_⟩) (by assumption) ?_
      rotate_left
      · intro w hSw; (try dsimp only at hSw); go_simp; try (with_reducible rfl)
      rotate_left 0
      try simp only [Act.put, List.setIfInBounds_toArray, List.set_cons_zero, List.set_cons_succ]
      refine wpAnyH_take (i := 15) (oi := ⟨some 36, _, _, _, _, _⟩) (v := (.agg #[.int .i64 (p0 : Int), .int .i64 (p1 : Int), .int .i64 (p2 : Int)])) rfl (by kernel_rfl) (by kernel_rfl) (by kernel_rfl) (fun _ _ _ h => h) (yields_loadA (by rfl) 32 _ rfl (.pointer (some (adw.add (q * 3)))) rfl _ (fun W' hS => HROW.out W' hS)) (by assumption) ?_
      try simp only [Act.put, List.setIfInBounds_toArray, List.set_cons_zero, List.set_cons_succ]
      refine wpAnyH_take (i := 16) (oi := ⟨some 37, _, _, _, _, _⟩) (v := (.bool false)) rfl (by kernel_rfl) (by kernel_rfl) (by kernel_rfl) (fun _ _ _ h => h) (yields_binA (by rfl) .neq _ _ _ _ rfl (.agg #[.int .i64 (p0 : Int), .int .i64 (p1 : Int), .int .i64 (p2 : Int)]) (.agg #[.int .i64 (p0 : Int), .int .i64 (p1 : Int), .int .i64 (p2 : Int)]) rfl rfl _ (fun _ => rfl) (fun w' => neq_trip _ _ _ w')) (by assumption) ?_
      try simp only [Act.put, List.setIfInBounds_toArray, List.set_cons_zero, List.set_cons_succ]
      refine wpAnyH_take (i := 17) (oi := ⟨some 38, _, _, _, _, _⟩) (v := ?_) rfl (by kernel_rfl) (by kernel_rfl) (by kernel_rfl) (fun _ _ _ h => h) (Or.inl ⟨by rfl, ?_⟩) (by assumption) ?_
      rotate_left
      · intro w hSw; (try dsimp only at hSw); go_simp; try (with_reducible rfl)
      rotate_left 0
      try simp only [Act.put, List.setIfInBounds_toArray, List.set_cons_zero, List.set_cons_succ]
      refine wpAnyH_done (by kernel_rfl) ?_ _
      generalize Wb.drew = Wx at hbX ⊢
      have HX := Lib.hid hbX
      have kn := HI.out.1.below hbX HI.out.1.lt
      have cn := (kn.cell 0).trans (show _ = some (Value.int .i64 (q : Int)) by rw [HQ.out]; rfl)
      have fn := kn.frozen 0
      have hcm2 := fun v => HCM.out _ v hbX
      have hcn2 := fun v => HCN2.out _ v hbX
      have HKN := Lib.hid kn
      clear hbX kn
      by_cases hmost : (q : Int) + 1 = most
      · have e1 : ((q : Int) + 1 == most) = true := by rw [beq_iff_eq]; exact hmost
        have HMO := Lib.hid hmost
        clear hmost
        gi_wp2
        refine ⟨keepsFrom_trans (keepsFrom_of_below HX.out) (keepsFrom_row HKN.out (by simp [World.setCell]) (fun b hb => Below.heap_setCell _ _ _ _ hb)), rfl, ?_, ?_⟩
        · rw [List.length_append, List.length_singleton, HQ.out]
          have := HMO.out
          push_cast
          omega
        · exact HNEXT.out _ HX.out
      · have e1 : ((q : Int) + 1 == most) = false := by rw [beq_eq_false_iff_ne]; exact hmost
        clear hmost
        gi_wp2
        refine ⟨keepsFrom_trans (keepsFrom_of_below HX.out) (keepsFrom_row HKN.out (by simp [World.setCell]) (fun b hb => Below.heap_setCell _ _ _ _ hb)), (Keep.of_below HX.out).trans (.setCell _ _ _ rfl), HNEXT.out _ HX.out⟩
    case done =>
      rintro D Wd hD hI hK
      have cn : Wd.cell? ⟨nb, 0, none⟩ = some (.int .i64 (N : Int)) := by rw [hI.1.cell]; rw [HTE.out, HTN.out]; rfl
      have cw : Wd.cell? ⟨wb, 0, none⟩ = some (.slice Av N cv) := by rw [hI.2.2.1.cell]; rfl
      have cm : Wd.cell? ⟨w.heap.size, 0, none⟩ = some (.int .i64 most) := by rw [hI.2.2.2.1.cell]; rfl
      have c0 : Wd.cell? ⟨w.heap.size + 1, 0, none⟩ = some (.bool false) := by rw [hI.2.1.cell]; rfl
      have f0 : Wd.frozen? ⟨w.heap.size + 1, 0, none⟩ = false := hI.2.1.frozen 0
      have HI := Lib.hid hI
      have HK := Lib.hid hK
      have HD := Lib.hid hD
      have HLO := Lib.hid (longest_any A c L _ Wd (HR.out.old hI.2.2.2.2.2.2) (by rw [HN.out]; exact hm))
      rw [HN.out] at HLO
      have HRD := Lib.hid (HR.out.old hI.2.2.2.2.2.2)
      clear hI hK hD
      go_wp2_with (go_at_call 9; refine HLO.out.mono ?_; rintro e WL ⟨A3, q3, c3, rfl, hall, _, rfl⟩; have HALL := Lib.hid hall; clear hall HLO)
      go_loopw [48] (fun i wr => ∃ k : Nat, k ≤ n ∧ i = .int .i64 (k : Int) ∧ Wd = wr) (fun i _ => n - (intOf i).toNat)
      case atStart => exact ⟨0, Nat.zero_le _, rfl, rfl⟩
      case round =>
        obtain ⟨k, hk, rfl, rfl⟩ := hrel
        by_cases hkn : k < n
        · have hki : (k : Int) < (n : Int) := by omega
          obtain ⟨ad, A', c', rfl, _, hcell, hlb, _⟩ := HRD.out k (by rw [HN.out]; exact hkn)
          have hle := HALL.out _ (getD_mem [] (show k < L.length by rw [HN.out]; exact hkn))
          obtain ⟨m, hm2⟩ : ∃ z, (L.getD k []).length = z := ⟨_, rfl⟩
          rw [hm2] at hcell hlb hle
          have e1 : decide ((m : Int) > (q3 : Int)) = false := decide_eq_false (by omega)
          have e2 : decide (m > q3) = false := decide_eq_false (by omega)
          clear hm2 hle
          go_wp2
          go_roundw
          · exact ⟨k + 1, by omega, by go_num, by simp⟩
          · simp [intOf]
            omega
        · obtain rfl : k = n := by omega
          have e9 : ((N : Int) == (N : Int)) = true := by simp
          go_wp2
          have hi := HI.out
          have hD0 : D ≠ w.heap.size + 1 := by have := HD.out; have := HW6.out; omega
          have hK2 : (Wd.setCell ⟨w.heap.size + 1, 0, none⟩ (.bool true)).heap[D]? = some (.deferred (some [])) := (Below.heap_setCell _ _ _ _ hD0).trans HK.out
          refine ⟨by simp, .inl ⟨_, _, rfl, run_takeDeferred hK2, ?_⟩⟩
          have kb := (hi.2.1.store 0 (.bool true)).putObj (.deferred none) hK2 rfl
          exact ⟨.bool true, results_cell1 rfl _ _ ⟨w.heap.size + 1, 0, none⟩ _ rfl (loadVar_oneA Try.underlying4 rfl (by rw [kb.cell]; rfl)), rfl, below_putObj (hi.2.2.2.2.2.2.setCell (by simp) _) _ (by have := HD.out; have := HW6.out; omega)⟩
    case stop =>
      rintro D c' pre Wd hD hpre hne ⟨rfl, hmo, hI⟩ hK
      obtain ⟨N0, hN0⟩ : ∃ z, pre.length = z := ⟨_, rfl⟩
      rw [hN0] at hmo
      have HMO := Lib.hid hmo
      clear hmo hpre hne
      refine wpIn_wide.2 ?_
      have cn : Wd.cell? ⟨nb, 0, none⟩ = some (.int .i64 (N0 : Int)) := by rw [hI.1.cell]; rw [hN0]; rfl
      have cw : Wd.cell? ⟨wb, 0, none⟩ = some (.slice Av N cv) := by rw [hI.2.2.1.cell]; rfl
      have cm : Wd.cell? ⟨w.heap.size, 0, none⟩ = some (.int .i64 most) := by rw [hI.2.2.2.1.cell]; rfl
      have c0 : Wd.cell? ⟨w.heap.size + 1, 0, none⟩ = some (.bool false) := by rw [hI.2.1.cell]; rfl
      have f0 : Wd.frozen? ⟨w.heap.size + 1, 0, none⟩ = false := hI.2.1.frozen 0
      have HI := Lib.hid hI
      have HK := Lib.hid hK
      have HD := Lib.hid hD
      have HLO := Lib.hid (longest_any A c L _ Wd (HR.out.old hI.2.2.2.2.2.2) (by rw [HN.out]; exact hm))
      rw [HN.out] at HLO
      have HRD := Lib.hid (HR.out.old hI.2.2.2.2.2.2)
      clear hI hK hD
      go_wp2_with (go_at_call 9; refine HLO.out.mono ?_; rintro e WL ⟨A3, q3, c3, rfl, hall, _, rfl⟩; have HALL := Lib.hid hall; clear hall HLO)
      go_loopw [48] (fun i wr => ∃ k : Nat, k ≤ n ∧ i = .int .i64 (k : Int) ∧ Wd = wr) (fun i _ => n - (intOf i).toNat)
      case atStart => exact ⟨0, Nat.zero_le _, rfl, rfl⟩
      case round =>
        obtain ⟨k, hk, rfl, rfl⟩ := hrel
        by_cases hkn : k < n
        · have hki : (k : Int) < (n : Int) := by omega
          obtain ⟨ad, A', c', rfl, _, hcell, hlb, _⟩ := HRD.out k (by rw [HN.out]; exact hkn)
          have hle := HALL.out _ (getD_mem [] (show k < L.length by rw [HN.out]; exact hkn))
          obtain ⟨m, hm2⟩ : ∃ z, (L.getD k []).length = z := ⟨_, rfl⟩
          rw [hm2] at hcell hlb hle
          have e1 : decide ((m : Int) > (q3 : Int)) = false := decide_eq_false (by omega)
          have e2 : decide (m > q3) = false := decide_eq_false (by omega)
          clear hm2 hle
          go_wp2
          go_roundw
          · exact ⟨k + 1, by omega, by go_num, by simp⟩
          · simp [intOf]
            omega
        · obtain rfl : k = n := by omega
          have e9 : ((N0 : Int) == most) = true := by rw [beq_iff_eq]; exact HMO.out
          by_cases hNN : N0 = N
          · have e8 : ((N0 : Int) == (N : Int)) = true := by rw [beq_iff_eq, hNN]
            clear hNN
            go_wp2
            have hi := HI.out
            have hD0 : D ≠ w.heap.size + 1 := by have := HD.out; have := HW6.out; omega
            have hK2 : (Wd.setCell ⟨w.heap.size + 1, 0, none⟩ (.bool true)).heap[D]? = some (.deferred (some [])) := (Below.heap_setCell _ _ _ _ hD0).trans HK.out
            refine ⟨by simp, .inl ⟨_, _, rfl, run_takeDeferred hK2, ?_⟩⟩
            have kb := (hi.2.1.store 0 (.bool true)).putObj (.deferred none) hK2 rfl
            exact ⟨.bool true, results_cell1 rfl _ _ ⟨w.heap.size + 1, 0, none⟩ _ rfl (loadVar_oneA Try.underlying4 rfl (by rw [kb.cell]; rfl)), rfl, below_putObj (hi.2.2.2.2.2.2.setCell (by simp) _) _ (by have := HD.out; have := HW6.out; omega)⟩
          · have e8 : ((N0 : Int) == (N : Int)) = false := by rw [beq_eq_false_iff_ne]; omega
            clear hNN
            go_wp2
            have hi := HI.out
            have hD0 : D ≠ w.heap.size + 1 := by have := HD.out; have := HW6.out; omega
            have hK2 : (Wd.setCell ⟨w.heap.size + 1, 0, none⟩ (.bool true)).heap[D]? = some (.deferred (some [])) := (Below.heap_setCell _ _ _ _ hD0).trans HK.out
            refine ⟨by simp, .inl ⟨_, _, rfl, run_takeDeferred hK2, ?_⟩⟩
            have kb := (hi.2.1.store 0 (.bool true)).putObj (.deferred none) hK2 rfl
            exact ⟨.bool true, results_cell1 rfl _ _ ⟨w.heap.size + 1, 0, none⟩ _ rfl (loadVar_oneA Try.underlying4 rfl (by rw [kb.cell]; rfl)), rfl, below_putObj (hi.2.2.2.2.2.2.setCell (by simp) _) _ (by have := HD.out; have := HW6.out; omega)⟩
end Go.Proofs.Ytalacjmcllfdhaa
