/-
  The law AuditTwice. In whatever memory. No condition.
-/
import Derived.Test.YtjdgcciemlfapaaQAg
import Derived.Test.YtjdgcciemlfapaaAudRt
import Derived.Test.YtjdgcciemlfapaaAudRfr
import Derived.Laws.StructEq
namespace Go.Proofs.Ytjdgcciemlfapaa
open Go Go.RowKit Go.Shelf Go.Maps PackMath
attribute [local go_sem] Oper.semAt_some

theorem eql_intT (d : Nat) (n : Int) (w : World) : (Op.equalIn (d + 1) 3 (.int .i64 n) (.int .i64 n)).run Try.prog w = .ok true w := by
  simp [Op.equalIn, run_underlying Try.underlying3]
theorem eql_partT (p q : Int) (w : World) : (binOp .eql 45 (.agg #[.int .i64 p, .int .i64 q, .int .i64 0]) (.agg #[.int .i64 p, .int .i64 q, .int .i64 0])).run Try.prog w = .ok (.bool true) w := by
  have hst : Try.prog.stoodInHeld 45 = false := by kernel_rfl
  have h : (Op.equalIn (9998 + 2) 45 (.agg #[.int .i64 p, .int .i64 q, .int .i64 0]) (.agg #[.int .i64 p, .int .i64 q, .int .i64 0])).run Try.prog w = .ok true w := by
    rw [run_equalIn_struct w (9998 + 1) _ _ _ (by unfold Program.fieldsOf; rw [Try.underlying45]) hst]
    unfold Program.fieldsOf
    rw [Try.underlying45]
    simp [Op.eqFields, Sem.run_bind, part, isAgg, run_underlying Try.underlying3, eql_intT]
  rw [run_eql_struct]
  show ((Op.equalIn (9998 + 2) 45 _ _).run Try.prog w).andThen _ = _
  rw [h]
  rfl
theorem built_partT (p q : Int) : (Try.prog.built 45 [(0, .int .i64 p), (1, .int .i64 q)]).getD #[] = #[.int .i64 p, .int .i64 q, .int .i64 0] := by kernel_rfl
theorem load_partT {W : World} {g : Nat} {p q : Int} (h : Blk W g 45 #[.int .i64 p, .int .i64 q, .int .i64 0]) : (Instr.loadAt 45 (.pointer (some ⟨g, 0, none⟩))).run Try.prog W = .ok (.agg #[.int .i64 p, .int .i64 q, .int .i64 0]) W := by
  refine run_load_el W 45 _ Try.underlying45 rfl _ [.int .i64 p, .int .i64 q, .int .i64 0] (by kernel_rfl) fun z hz => ?_
  have := h.cell z
  rw [List.getElem?_toArray] at this
  rw [← this]
  congr 1
  unfold Addr.add
  split <;> simp_all
theorem twV_eq (l : List (List UInt8)) : twV l = .agg #[.int .i64 (twI l).1, .int .i64 (twI l).2, .int .i64 0] := by
  unfold twV twI
  cases twL l with
  | none => rfl
  | some x => rfl
theorem rdPP_twoT {W : World} {ok : Nat → Prop} {g n1 c1 n2 c2 : Nat} {A1 A2 : Option Addr} {x y : List (List UInt8)} (h : Blk W g 26 #[.slice A1 n1 c1, .slice A2 n2 c2]) (h1 : x.length = n1 ∧ n1 ≤ 140737488351232 ∧ RdP W ok A1 x) (h2 : y.length = n2 ∧ n2 ≤ 140737488351232 ∧ RdP W ok A2 y) (hok : ok g) :
    RdPP W ok (some ⟨g, 0, none⟩) [x, y] := fun k hk => by
  obtain ⟨rfl, l1, r1⟩ := h1
  obtain ⟨rfl, l2, r2⟩ := h2
  match k, hk with
  | 0, _ => exact ⟨_, A1, c1, rfl, hok, by rw [add_zero_block, h.cell]; rfl, l1, r1⟩
  | 1, _ => exact ⟨_, A2, c2, rfl, hok, by rw [add_zero_block, h.cell]; rfl, l2, r2⟩
set_option maxRecDepth 100000 in
set_option maxHeartbeats 16000000 in
theorem twice_law (A : Option Addr) (c : Nat) (l : List (List UInt8)) (A2 : Option Addr) (c2 : Nat) (h : List (List UInt8)) (w : World) (hm : l.length ≤ 140737488351232) (hr : RdP w (fun b => b < w.heap.size) A l) (hm2 : h.length ≤ 140737488351232) (hr2 : RdP w (fun b => b < w.heap.size) A2 h) :
    Calls Try.prog 5 #[.slice A l.length c, .slice A2 h.length c2] w fun e w' => e = .returned (.bool true) ∧ Below w.heap.size w w' := by
  have HR := Lib.hid hr
  have HR2 := Lib.hid hr2
  obtain ⟨n, hn⟩ : ∃ z, l.length = z := ⟨_, rfl⟩
  obtain ⟨m, hm0⟩ : ∃ z, h.length = z := ⟨_, rfl⟩
  rw [hn] at hm
  rw [hm0] at hm2
  rw [hn, hm0]
  have HN := Lib.hid (And.intro hn hm0)
  have HM := Lib.hid (And.intro hm hm2)
  clear hr hr2 hn hm0 hm hm2
  go_enter Try.func5, Try.ntmps5
  go_upto_region 3 with (go_at_call 12; refine (finds_any w).mono ?_; rintro e W2 ⟨rfl, hb2⟩; have HB2 := Lib.hid hb2; clear hb2)
  have HFW : Hid (Calls Try.prog 13 #[.slice (some ⟨W2.heap.size, 0, none⟩) 2 2] (W2.alloc (.cells #[.slice A n c, .slice A2 m c2] 26)) fun e w' => ∃ b, e = .returned (.bool b) ∧ (b = true ↔ FewL [l, h]) ∧ (W2.alloc (.cells #[.slice A n c, .slice A2 m c2] 26)) = w') := Lib.hid (by
    have hbx : Below w.heap.size w (W2.alloc (.cells #[.slice A n c, .slice A2 m c2] 26)) := HB2.out.alloc HB2.out.size _
    exact few_any (some ⟨W2.heap.size, 0, none⟩) 2 [l, h] (fun _ => True) _ (rdPP_twoT (Blk.newAt W2 _ rfl rfl) ⟨HN.out.1, HM.out.1, (HR.out.kept fun a x ha hx => (hbx.cell (p := a) ha).trans hx).mono fun _ _ => trivial⟩ ⟨HN.out.2, HM.out.2, (HR2.out.kept fun a x ha hx => (hbx.cell (p := a) ha).trans hx).mono fun _ _ => trivial⟩ trivial) (by simp))
  have HB3 : Hid (Below w.heap.size w (W2.alloc (.cells #[.slice A n c, .slice A2 m c2] 26))) := Lib.hid (HB2.out.alloc HB2.out.size _)
  by_cases hfew : FewL [l, h]
  case neg =>
    have HFE := Lib.hid hfew
    clear hfew
    go_wp2_with (go_at_call 13; refine HFW.out.mono ?_; rintro e W3 ⟨b, rfl, hb, rfl⟩; have hb0 : b = false := (by cases b with | false => rfl | true => exact absurd (hb.1 rfl) HFE.out); subst hb0; clear hb)
    go_ret
    exact ⟨rfl, HB3.out⟩
  case pos =>
    have hl1 := hfew.2 l (by simp)
    have hl2 := hfew.2 h (by simp)
    have HFE := Lib.hid hfew
    have HL1 := Lib.hid hl1
    have HL2 := Lib.hid hl2
    clear hfew hl1 hl2
    go_upto_region 5 with (go_at_call 13; refine HFW.out.mono ?_; rintro e W3 ⟨b, rfl, hb, rfl⟩; have hb0 : b = true := hb.2 HFE.out; subst hb0; clear hb)
    clear HFW HB2
    obtain ⟨W3, hW3⟩ : ∃ z, W2.alloc (.cells #[.slice A n c, .slice A2 m c2] 26) = z := ⟨_, rfl⟩
    rw [hW3] at HB3 ⊢
    clear hW3
    have HT := Lib.hid (fun W (hb : Below w.heap.size w W) => twice_any A c l W ((HR.out.kept fun a x ha hx => (hb.cell (p := a) ha).trans hx).mono fun b hb' => Nat.lt_of_lt_of_le hb' hb.size) (Nat.le_trans HL1.out.1 (by omega)))
    have HT2 := Lib.hid (fun W (hb : Below w.heap.size w W) => refTwiceA_any A c l W ((HR.out.kept fun a x ha hx => (hb.cell (p := a) ha).trans hx).mono fun b hb' => Nat.lt_of_lt_of_le hb' hb.size) (Nat.le_trans HL1.out.1 (by omega)) HL1.out.2)
    have HF1 := Lib.hid (fun W (hb : Below w.heap.size w W) => foreign_any A A2 c c2 l h W ((HR.out.kept fun a x ha hx => (hb.cell (p := a) ha).trans hx).mono fun b hb' => Nat.lt_of_lt_of_le hb' hb.size) ((HR2.out.kept fun a x ha hx => (hb.cell (p := a) ha).trans hx).mono fun b hb' => Nat.lt_of_lt_of_le hb' hb.size) (Nat.le_trans HL1.out.1 (by omega)) (Nat.le_trans HL2.out.1 (by omega)) HL1.out.2 HL2.out.2)
    have HF2 := Lib.hid (fun W (hb : Below w.heap.size w W) => refForeign_any A A2 c c2 l h W ((HR.out.kept fun a x ha hx => (hb.cell (p := a) ha).trans hx).mono fun b hb' => Nat.lt_of_lt_of_le hb' hb.size) ((HR2.out.kept fun a x ha hx => (hb.cell (p := a) ha).trans hx).mono fun b hb' => Nat.lt_of_lt_of_le hb' hb.size) (Nat.le_trans HL1.out.1 (by omega)) (Nat.le_trans HL2.out.1 (by omega)))
    rw [twV_eq, HN.out.1] at HT
    rw [HN.out.1] at HT2
    rw [HN.out.1, HN.out.2] at HF1 HF2
    obtain ⟨p, hp⟩ : ∃ z, (twI l).1 = z := ⟨_, rfl⟩
    obtain ⟨q, hq⟩ : ∃ z, (twI l).2 = z := ⟨_, rfl⟩
    obtain ⟨β, hβ⟩ : ∃ z, (twL l).isSome = z := ⟨_, rfl⟩
    obtain ⟨f, hf⟩ : ∃ z, (forB l h).1 = z := ⟨_, rfl⟩
    obtain ⟨δ, hδ⟩ : ∃ z, (forB l h).2 = z := ⟨_, rfl⟩
    rw [hp, hq, hβ] at HT HT2
    rw [hf, hδ] at HF1 HF2
    clear hp hq hβ hf hδ
    have heq := eql_partT p q
    go_wp2_with fail
    refine (HT.out W3 HB3.out).mono ?_
    rintro e W5 ⟨rfl, hb5⟩
    have HB5 := Lib.hid (HB3.out.trans (hb5.mono HB3.out.size))
    clear hb5 HT
    dsimp only
    go_upto_region 6 with (guard_target = wpList _ _ _ (Oper.mk _ (.store 45 _ _) _ _ _ _ :: _) _ _; refine wpList_store_row rfl 45 _ _ rfl W5.heap.size #[.int .i64 p, .int .i64 q, .int .i64 0] rfl rfl 45 _ (heap_alloc_new W5 _) (by kernel_rfl) rfl (by kernel_rfl) ?_; rw [World.setRow_alloc_new])
    obtain ⟨W6, hW6⟩ : ∃ z, W5.alloc (.cells #[.int .i64 p, .int .i64 q, .int .i64 0] 45) = z := ⟨_, rfl⟩
    rw [hW6]
    have HK6 : Hid (Blk W6 W5.heap.size 45 #[.int .i64 p, .int .i64 q, .int .i64 0]) := Lib.hid (by rw [← hW6]; exact Blk.newAt _ _ rfl rfl)
    have HB6 : Hid (Below w.heap.size w W6) := Lib.hid (by rw [← hW6]; exact HB5.out.alloc HB5.out.size _)
    obtain ⟨g5, hg5⟩ : ∃ z, W5.heap.size = z := ⟨_, rfl⟩
    rw [hg5] at HK6
    rw [hg5]
    clear hg5 hW6
    go_upto_region 7 with (go_at_call 15; refine (HT2.out W6 HB6.out).mono ?_; rintro e W7 ⟨rfl, hb7⟩; have HB7 := Lib.hid (HB6.out.trans (hb7.mono HB6.out.size)); have HK7 := Lib.hid (HK6.out.below hb7 HK6.out.lt); clear hb7)
    go_upto_region 8 with (go_at_call 16; refine (HF1.out W7 HB7.out).mono ?_; rintro e W8 ⟨rfl, hb8⟩; have HB8 := Lib.hid (HB7.out.trans (hb8.mono HB7.out.size)); have HK8 := Lib.hid (HK7.out.below hb8 HK7.out.lt); clear hb8)
    go_upto_region 9 with (go_at_call 17; refine (HF2.out W8 HB8.out).mono ?_; rintro e W9 ⟨rfl, hb9⟩; have HB9 := Lib.hid (HB8.out.trans (hb9.mono HB8.out.size)); have HK9 := Lib.hid (HK8.out.below hb9 HK8.out.lt); clear hb9)
    clear HT2 HF1 HF2
    go_wp2_with (first
      | (guard_target = wpList _ _ _ (Oper.mk _ (.load 45 _) _ _ _ _ :: _) _ _; refine wpList_load_runB (by rfl) 45 _ rfl (.pointer (some ⟨g5, 0, none⟩)) (.agg #[.int .i64 p, .int .i64 q, .int .i64 0]) rfl (load_partT HK9.out) ?_)
      | (guard_target = wpList _ _ _ (Oper.mk _ (.build 45 _) _ _ _ _ :: _) _ _; refine wpList_buildG (by rfl) 45 _ rfl (by kernel_rfl) ?_; simp only [List.map_toArray, List.map_cons, List.map_nil]; rw [built_partT]))
    go_ret
    exact ⟨by simp, HB9.out⟩
end Go.Proofs.Ytjdgcciemlfapaa
