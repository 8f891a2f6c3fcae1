/-
  slices.Clone of IDs; tree's Append and Tops. No condition.
-/
import Derived.Test.YtphknicdllcbmaaDoorTreeFn
namespace Go.Proofs.YtphknicdllcbmaaDoor
open Go Go.RowKit Go.Shelf TreeM

set_option maxRecDepth 100000 in
set_option maxHeartbeats 1000000 in
/-- slices.Clone of a slice of IDs. -/
theorem clone_any (v : Value) (l : List D) (w : World) (hr : RdI w (fun b => b < w.heap.size) v l) :
    Calls Tryd.prog 37 #[v] w fun e w' => ∃ v', e = .returned v' ∧ w'.ownsRow w.heap.size 30 32 v' l.length (idCells l) ∧ Below w.heap.size w w' := by
  obtain ⟨A, c, rfl, _⟩ := id hr
  cases A with
  | none =>
    have h0 : l.length = 0 := by
      rcases Nat.eq_zero_or_pos l.length with h | h
      · exact h
      · obtain ⟨ad, e, _⟩ := hr.at_ (k := 0) h
        cases e
    have hl : l = [] := List.length_eq_zero_iff.1 h0
    subst hl
    clear hr h0
    have hnil : ∀ W, (binOp .eql 22 (.slice none 0 c) (.slice none 0 0)).run Tryd.prog W = .ok (.bool true) W := fun W => run_eql_slice_nil W _ _ none 0 c Tryd.underlying22
    show Calls Tryd.prog _ #[.slice none 0 c] _ _
    go_enter Tryd.func37, Tryd.ntmps37
    go_wp2
    go_ret
    exact ⟨_, rfl, World.ownsRow_nil _ _ _ _, Below.refl _ _⟩
  | some A =>
    have hmax := hr.max
    have h1 : Below w.heap.size w (w.alloc (.cells #[] 30)) := (Below.refl _ _).alloc (Nat.le_refl _) _
    have ho : (w.alloc (.cells #[] 30)).ownsRow w.heap.size 30 32 (.slice (some ⟨w.heap.size, 0, none⟩) 0 0) 0 [] := ⟨rfl, .inr ⟨w.heap.size, 0, #[], rfl, Nat.le_refl _, heap_alloc_new w _, Nat.le_refl _, by unfold maxLen; omega, rfl, rfl⟩⟩
    obtain ⟨v', w', hrun, hown, hgr, _⟩ := app_ids (B := w.heap.size) h1.size ho (hr.below h1) (by omega)
    rw [Nat.zero_add, List.nil_append] at hown
    have hb : Below w.heap.size w w' := h1.trans ⟨hgr.os, hgr.tape, hgr.output, hgr.size, fun k hk => hgr.block k (Nat.lt_of_lt_of_le hk h1.size) (fun e => by simp only [Value.ownBlock, Option.some.injEq] at e; omega)⟩
    have R1 := Lib.hid hrun
    have HE := Lib.hid (And.intro hown hb)
    clear hrun hown hgr hb ho h1 hr
    have hnil : ∀ W, (binOp .eql 22 (.slice (some A) l.length c) (.slice none 0 0)).run Tryd.prog W = .ok (.bool false) W := fun W => run_eql_slice_nil W _ _ (some A) l.length c Tryd.underlying22
    go_enter Tryd.func37, Tryd.ntmps37
    go_wp2_with (first
      | (at_builtin; refine wpList_append_run rfl (.tmp 5) (.tmp 6) _ _ rfl _ _ rfl rfl _ _ R1.out ?_))
    go_ret
    exact ⟨_, rfl, HE.out.1, HE.out.2⟩
set_option maxRecDepth 100000 in
set_option maxHeartbeats 2000000 in
theorem treeAppend_any (w0 : World) (hT : Tables w0) (Z : Nat → Prop) (g : Nat) (L : List D) (v : Value) (l : List D) (w : World) (h : TreeAt w Z g L) (hZ : ∀ i, Z i → w0.heap.size ≤ i) (hb0 : Below w0.heap.size w0 w) (ok : Nat → Prop)
    (hr : RdI w ok v l) (hok : ∀ b, ok b → b < w.heap.size ∧ ¬ Z b) (hn : L.length + l.length ≤ 1099511627776) :
    Calls Tryd.prog 13 #[.pointer (some ⟨g, 0, none⟩), v] w fun e w' => e = .returned (.int .i64 0) ∧ TLeft Z g (L ++ l) w w' := by
  obtain ⟨A, c, rfl, _⟩ := id hr
  obtain ⟨n, hnl⟩ : ∃ n, l.length = n := ⟨_, rfl⟩
  obtain ⟨v1, hB, _⟩ := id h
  have c0 : w.cell? ⟨g, 0, none⟩ = some (.int .i64 (L.length : Int)) := hB.cell 0
  obtain ⟨m, hm⟩ : ∃ m, L.length = m := ⟨_, rfl⟩
  have HM1 := Lib.hid hm
  rw [hm] at c0
  have hle : ¬ ((n : Int) > 1099511627776 - (m : Int)) := by omega
  have hle2 : decide ((n : Int) > 1099511627776 - (m : Int)) = false := by simpa using hle
  have hm0 : (m : Int) ≤ 1099511627776 := by omega
  have hm1 : 0 ≤ (m : Int) := by omega
  rw [hnl] at hr hn ⊢
  have HR := Lib.hid hr
  have HT := Lib.hid hT
  have HNL := Lib.hid hnl
  have HW1 := Lib.hid h
  have HN := Lib.hid hn
  clear hr hT h hB hm
  go_enter Tryd.func13, Tryd.ntmps13
  go_wp2
  go_loopw [17] (fun c wr => ∃ k : Nat, k ≤ n ∧ c = .int .i64 (k : Int) ∧ TLeft Z g (L ++ l.take k) w wr) (fun c _ => n - (intOf c).toNat)
  case atStart => exact ⟨0, by omega, rfl, by rw [List.take_zero, List.append_nil]; exact TLeft.refl HW1.out⟩
  case round =>
    clear c0 hle hle2
    obtain ⟨k, hk, rfl, hL⟩ := hrel
    by_cases hlt : k < n
    · have hbr : RdI wr ok (.slice A n c) l := by
        obtain ⟨Z1, q1, q2, q3⟩ := id hL
        exact HR.out.turn q2 (fun b hb => (hok b hb).2)
      obtain ⟨ad, rfl, _, hcell⟩ := hbr.at_ hlt
      have hkn : (k : Int) < (n : Int) := by omega
      have HP := Lib.hid (put_step w0 HT.out Z g L l k (by rw [HNL.out]; exact hlt) _ _ hL hZ hb0 (by rw [HNL.out]; exact HN.out))
      obtain ⟨f, hf⟩ : ∃ f, l.getD k dz = f := ⟨_, rfl⟩
      rw [hf] at hcell HP
      have HC := Lib.hid hcell
      have HM := Lib.hid (Nat.mul_comm 32 k)
      clear hf hcell hL hbr
      go_wp2_with (first
        | (refine wpList_load_at rfl 30 _ rfl (ad.add (32 * k)) (by first | rfl | (rw [HM.out]; rfl)) 32 (fun i => bv (f i)) 5 HC.out Tryd.underlying30 (by kernel_rfl) ?_)
        | (refine wpList_store_row rfl 30 _ _ rfl wr.heap.size (arr 32 fun i => bv (f i)) rfl rfl 30 _ (heap_alloc_new wr _) (by rw [arr_size]; kernel_rfl) (by rw [arr_size]; rfl) (arr_all_bv _ _) ?_; rw [World.setRow_alloc_new])
        | (refine wpList_load_arr rfl 30 _ rfl wr.heap.size rfl 30 (arr 32 fun i => bv (f i)) _ (Blk.newAt wr _ rfl rfl) Tryd.underlying30 rfl (by rw [arr_size]; kernel_rfl) ?_)
        | (go_at_call 32; refine HP.out.mono ?_; rintro e W3 ⟨rfl, hq⟩; have Q3 := Lib.hid hq; clear hq))
      go_roundw
      case rel => exact ⟨k + 1, by omega, by go_num, Q3.out⟩
      case measure => simp [intOf]; omega
    · obtain rfl : k = n := by omega
      have e : l.take k = l := by rw [← HNL.out]; simp
      rw [e] at hL
      have HL := Lib.hid hL
      clear hL e
      go_wp2
      go_ret
      exact ⟨rfl, HL.out⟩
set_option maxRecDepth 100000 in
set_option maxHeartbeats 2000000 in
theorem treeTops_any (Z : Nat → Prop) (g : Nat) (L : List D) (w : World) (h : TreeAt w Z g L) :
    Calls Tryd.prog 18 #[.pointer (some ⟨g, 0, none⟩)] w fun e w' => ∃ v', e = .returned v' ∧ w'.ownsRow w.heap.size 30 32 v' (tops L).length (idCells (tops L)) ∧ Below w.heap.size w w' := by
  obtain ⟨v1, hB, hO, _, _, _, hp, hle⟩ := id h
  have c1 : w.cell? ⟨g, 1, none⟩ = some v1 := hB.cell 1
  have hpl : (tops L).length ≤ 1000 := by
    have := pop_le 41 L.length (by omega)
    omega
  have hr := own_rd hO (by omega)
  have HC := Lib.hid (clone_any v1 (tops L) w (hr.mono fun b hb => hb.2.2))
  obtain ⟨A, c, rfl, _⟩ := own_len hO
  generalize (tops L).length = q at c1 HC hp hpl ⊢
  generalize idCells (tops L) = xs at HC ⊢
  clear h hB hO hr hp hpl hle
  go_enter Tryd.func18, Tryd.ntmps18
  go_wp2_with (go_at_call 37; refine HC.out.mono ?_; rintro e W3 ⟨v', rfl, hq⟩; have Q3 := Lib.hid hq; clear hq)
  go_ret
  exact ⟨_, rfl, Q3.out⟩
set_option maxRecDepth 100000 in
set_option maxHeartbeats 2000000 in
theorem treeSize_any (Z : Nat → Prop) (g : Nat) (L : List D) (w : World) (h : TreeAt w Z g L) :
    Calls Tryd.prog 16 #[.pointer (some ⟨g, 0, none⟩)] w fun e w' => e = .returned (.int .i64 (L.length : Int)) ∧ w' = w := by
  obtain ⟨v1, hB, _⟩ := id h
  have c0 : w.cell? ⟨g, 0, none⟩ = some (.int .i64 (L.length : Int)) := hB.cell 0
  obtain ⟨m, hm⟩ : ∃ m, L.length = m := ⟨_, rfl⟩
  rw [hm] at c0 ⊢
  clear h hB hm
  go_enter Tryd.func16, Tryd.ntmps16
  go_wp2
  go_ret
  exact ⟨rfl, rfl⟩
end Go.Proofs.YtphknicdllcbmaaDoor
