/-
  tree.Of, Append, Size, Tops: for every list of leaves of not more than 2^40, in whatever memory. No condition.
-/
import Derived.Test.YtkkanaefngggoaaDoorTreeRd
namespace Go.Proofs.YtkkanaefngggoaaDoor
open Go Go.RowKit Go.Shelf TreeM

/-- A range of these leaves. -/
def TreeAt (w : World) (Z : Nat → Prop) (g : Nat) (L : List D) : Prop := RangeAt w Z g L.length (tops L)
/-- What a call leaves of a range. -/
def TLeft (Z : Nat → Prop) (g : Nat) (L : List D) (w w' : World) : Prop := ∃ Z', TreeAt w' Z' g L ∧ Turn Z w w' ∧ ∀ i, Z' i → Z i ∨ w.heap.size ≤ i
theorem TLeft.refl {w : World} {Z : Nat → Prop} {g : Nat} {L : List D} (h : TreeAt w Z g L) : TLeft Z g L w w := ⟨Z, h, Turn.refl _ _, fun _ hi => .inl hi⟩
theorem TLeft.below {w w1 w2 : World} {Z : Nat → Prop} {g : Nat} {L : List D} (h : TLeft Z g L w w1) (hb : Below w1.heap.size w1 w2) : TLeft Z g L w w2 := by
  obtain ⟨Z', h1, h2, h3⟩ := h
  exact ⟨Z', RangeAt.below h1 hb, h2.trans (Turn.of_new hb Z) (fun _ _ hi => hi), h3⟩
theorem put_tree (w0 : World) (hT : Tables w0) (Z : Nat → Prop) (g : Nat) (L : List D) (f : D) (w w1 : World) (h : TLeft Z g L w w1) (hZ : ∀ i, Z i → w0.heap.size ≤ i) (hb0 : Below w0.heap.size w0 w) (hn : L.length < 1099511627776) :
    Calls Tryd.prog 44 #[.pointer (some ⟨g, 0, none⟩), .agg (arr 32 fun i => bv (f i))] w1 fun e w' => e = .returned (.tuple #[]) ∧ TLeft Z g (L ++ [f]) w w' := by
  obtain ⟨Z1, h1, h2, h3⟩ := h
  have hs := hb0.size
  have hb1 : Below w0.heap.size w0 w1 := hb0.trans (h2.below hs fun i hi hz => by have := hZ i hz; omega)
  refine (put_any w0 hT Z1 g L.length (tops L) f w1 h1 (fun i hi => by rcases h3 i hi with h | h; exact hZ i h; omega) hb1 hn).mono ?_
  rintro e w' ⟨rfl, Z2, q1, q2, q3⟩
  refine ⟨rfl, Z2, ?_, h2.trans q2 (fun i hi hz => (h3 i hz).resolve_right (by omega)), fun i hi => ?_⟩
  · unfold TreeAt
    rw [tops_snoc L.length L f rfl, List.length_append, List.length_singleton]
    exact q1
  · rcases q3 i hi with h | h
    · exact h3 i h
    · exact .inr (Nat.le_trans h2.size h)
theorem take_succ_get (l : List D) (k : Nat) (h : k < l.length) : l.take (k + 1) = l.take k ++ [l.getD k dz] := by
  rw [List.take_succ_eq_append_getElem h, List.getD_eq_getElem?_getD, List.getElem?_eq_getElem h]
  rfl
theorem tree_new (w : World) : TreeAt (w.alloc (.cells #[.int .i64 0, .slice none 0 0] 71)) (fun i => i = w.heap.size) w.heap.size [] := by
  refine ⟨.slice none 0 0, Blk.newAt w _ rfl rfl, ?_, rfl, fun i hi => by simp [Value.ownBlock] at hi, fun i hi => by subst hi; simp, ?_, by simp⟩
  · rw [tops_nil]
    exact World.ownsRow_nil _ _ _ _
  · rw [tops_nil]
    exact pop_zero.symm
/-- What holds at the head of a round: these have been put. -/
theorem put_step (w0 : World) (hT : Tables w0) (Z : Nat → Prop) (g : Nat) (L l : List D) (k : Nat) (hk : k < l.length) (w wr : World) (h : TLeft Z g (L ++ l.take k) w wr) (hZ : ∀ i, Z i → w0.heap.size ≤ i) (hb0 : Below w0.heap.size w0 w) (hn : L.length + l.length ≤ 1099511627776) :
    Calls Tryd.prog 44 #[.pointer (some ⟨g, 0, none⟩), .agg (arr 32 fun i => bv (l.getD k dz i))] (wr.alloc (.cells (arr 32 fun i => bv (l.getD k dz i)) 30)) fun e w' => e = .returned (.tuple #[]) ∧ TLeft Z g (L ++ l.take (k + 1)) w w' := by
  have h1 := h.below ((Below.refl wr.heap.size wr).alloc (Nat.le_refl _) (.cells (arr 32 fun i => bv (l.getD k dz i)) 30))
  have := put_tree w0 hT Z g (L ++ l.take k) (l.getD k dz) w _ h1 hZ hb0 (by rw [List.length_append, List.length_take]; omega)
  rw [List.append_assoc, ← take_succ_get l k hk] at this
  exact this
set_option maxRecDepth 100000 in
set_option maxHeartbeats 2000000 in
theorem treeOf_any (v : Value) (l : List D) (w : World) (hT : Tables w) (hr : RdI w (fun b => b < w.heap.size) v l) (hn : l.length ≤ 1099511627776) :
    Calls Tryd.prog 19 #[v] w fun e w' => ∃ g Z, e = .returned (.pointer (some ⟨g, 0, none⟩)) ∧ TreeAt w' Z g l ∧ Below w.heap.size w w' ∧ ∀ i, Z i → w.heap.size ≤ i := by
  obtain ⟨A, c, rfl, _⟩ := id hr
  obtain ⟨n, hnl⟩ : ∃ n, l.length = n := ⟨_, rfl⟩
  rw [hnl] at hr hn ⊢
  have hW1 := tree_new w
  have hb1 : Below w.heap.size w (w.alloc (.cells #[.int .i64 0, .slice none 0 0] 71)) := (Below.refl _ _).alloc (Nat.le_refl _) _
  have HR := Lib.hid hr
  have HT := Lib.hid hT
  have HNL := Lib.hid hnl
  have HB1 := Lib.hid hb1
  have HW1 := Lib.hid hW1
  have HN := Lib.hid hn
  clear hr hT hb1 hW1
  go_enter Tryd.func19, Tryd.ntmps19
  go_wp2_with (refine wpList_build rfl 71 #[.int .i64 0, .slice none 0 0] rfl (by kernel_rfl) ?_)
  go_loopw [10] (fun c wr => ∃ k : Nat, k ≤ n ∧ c = .int .i64 (k : Int) ∧ TLeft (fun i => i = w.heap.size) w.heap.size ([] ++ l.take k) (w.alloc (.cells #[.int .i64 0, .slice none 0 0] 71)) wr) (fun c _ => n - (intOf c).toNat)
  case atStart => exact ⟨0, by omega, rfl, TLeft.refl HW1.out⟩
  case round =>
    obtain ⟨k, hk, rfl, hL⟩ := hrel
    by_cases hlt : k < n
    · have hbr : Below w.heap.size w wr := by
        obtain ⟨Z1, q1, q2, q3⟩ := id hL
        exact HB1.out.trans (q2.below HB1.out.size fun i hi hz => by omega)
      obtain ⟨ad, rfl, hok, hcell⟩ := (HR.out.old hbr).at_ hlt
      have hkn : (k : Int) < (n : Int) := by omega
      have HP := Lib.hid (put_step w HT.out (fun i => i = w.heap.size) w.heap.size [] l k (by rw [HNL.out]; exact hlt) _ _ hL (fun i hi => Nat.le_of_eq hi.symm) HB1.out (by rw [HNL.out]; simp; exact HN.out))
      obtain ⟨f, hf⟩ : ∃ f, l.getD k dz = f := ⟨_, rfl⟩
      rw [hf] at hcell HP
      have HC := Lib.hid hcell
      have HM := Lib.hid (Nat.mul_comm 32 k)
      clear hf hcell hL hbr hok
      go_wp2_with (first
        | (refine wpList_load_at rfl 30 _ rfl (ad.add (32 * k)) (by first | rfl | (rw [HM.out]; rfl)) 32 (fun i => bv (f i)) 5 HC.out Tryd.underlying30 (by kernel_rfl) ?_)
        | (refine wpList_store_row rfl 30 _ _ rfl wr.heap.size (arr 32 fun i => bv (f i)) rfl rfl 30 _ (heap_alloc_new wr _) (by rw [arr_size]; kernel_rfl) (by rw [arr_size]; rfl) (arr_all_bv _ _) ?_; rw [World.setRow_alloc_new])
        | (refine wpList_load_arr rfl 30 _ rfl wr.heap.size rfl 30 (arr 32 fun i => bv (f i)) _ (Blk.newAt wr _ rfl rfl) Tryd.underlying30 rfl (by rw [arr_size]; kernel_rfl) ?_)
        | (go_at_call 44; refine HP.out.mono ?_; rintro e W3 ⟨rfl, hq⟩; have Q3 := Lib.hid hq; clear hq))
      go_roundw
      case rel => exact ⟨k + 1, by omega, by go_num, Q3.out⟩
      case measure => simp [intOf]; omega
    · obtain rfl : k = n := by omega
      have e : [] ++ l.take k = l := by rw [← HNL.out]; simp
      rw [e] at hL
      have HL := Lib.hid hL
      clear hL e
      go_wp2
      go_ret
      obtain ⟨Z1, q1, q2, q3⟩ := HL.out
      refine ⟨_, Z1, rfl, q1, HB1.out.trans (q2.below HB1.out.size fun i hi hz => by omega), fun i hi => ?_⟩
      have := HB1.out.size
      rcases q3 i hi with h | h <;> omega
set_option maxRecDepth 100000 in
set_option maxHeartbeats 2000000 in
theorem treeAppend_any (w0 : World) (hT : Tables w0) (Z : Nat → Prop) (g : Nat) (L : List D) (v : Value) (l : List D) (w : World) (h : TreeAt w Z g L) (hZ : ∀ i, Z i → w0.heap.size ≤ i) (hb0 : Below w0.heap.size w0 w) (ok : Nat → Prop)
    (hr : RdI w ok v l) (hok : ∀ b, ok b → b < w.heap.size ∧ ¬ Z b) (hn : L.length + l.length ≤ 1099511627776) :
    Calls Tryd.prog 20 #[.pointer (some ⟨g, 0, none⟩), v] w fun e w' => e = .returned (.int .i64 0) ∧ TLeft Z g (L ++ l) w w' := by
  obtain ⟨A, c, rfl, _⟩ := id hr
  obtain ⟨n, hnl⟩ : ∃ n, l.length = n := ⟨_, rfl⟩
  obtain ⟨v1, hB, _⟩ := id h
  have c0 : w.cell? ⟨g, 0, none⟩ = some (.int .i64 (L.length : Int)) := hB.cell 0
  obtain ⟨m, hm⟩ : ∃ m, L.length = m := ⟨_, rfl⟩
  have HM1 := Lib.hid hm
  rw [hm] at c0
  have hle : ¬ ((n : Int) > 1099511627776 - (m : Int)) := by omega
  have hle2 : decide ((n : Int) > 1099511627776 - (m : Int)) = false := by simpa using hle
  have hm0 : (m : Int) ≤ 1099511627776 := by omega
  have hm1 : 0 ≤ (m : Int) := by omega
  rw [hnl] at hr hn ⊢
  have HR := Lib.hid hr
  have HT := Lib.hid hT
  have HNL := Lib.hid hnl
  have HW1 := Lib.hid h
  have HN := Lib.hid hn
  clear hr hT h hB hm
  go_enter Tryd.func20, Tryd.ntmps20
  go_wp2
  go_loopw [17] (fun c wr => ∃ k : Nat, k ≤ n ∧ c = .int .i64 (k : Int) ∧ TLeft Z g (L ++ l.take k) w wr) (fun c _ => n - (intOf c).toNat)
  case atStart => exact ⟨0, by omega, rfl, by rw [List.take_zero, List.append_nil]; exact TLeft.refl HW1.out⟩
  case round =>
    clear c0 hle hle2
    obtain ⟨k, hk, rfl, hL⟩ := hrel
    by_cases hlt : k < n
    · have hbr : RdI wr ok (.slice A n c) l := by
        obtain ⟨Z1, q1, q2, q3⟩ := id hL
        exact HR.out.turn q2 (fun b hb => (hok b hb).2)
      obtain ⟨ad, rfl, _, hcell⟩ := hbr.at_ hlt
      have hkn : (k : Int) < (n : Int) := by omega
      have HP := Lib.hid (put_step w0 HT.out Z g L l k (by rw [HNL.out]; exact hlt) _ _ hL hZ hb0 (by rw [HNL.out]; exact HN.out))
      obtain ⟨f, hf⟩ : ∃ f, l.getD k dz = f := ⟨_, rfl⟩
      rw [hf] at hcell HP
      have HC := Lib.hid hcell
      have HM := Lib.hid (Nat.mul_comm 32 k)
      clear hf hcell hL hbr
      go_wp2_with (first
        | (refine wpList_load_at rfl 30 _ rfl (ad.add (32 * k)) (by first | rfl | (rw [HM.out]; rfl)) 32 (fun i => bv (f i)) 5 HC.out Tryd.underlying30 (by kernel_rfl) ?_)
        | (refine wpList_store_row rfl 30 _ _ rfl wr.heap.size (arr 32 fun i => bv (f i)) rfl rfl 30 _ (heap_alloc_new wr _) (by rw [arr_size]; kernel_rfl) (by rw [arr_size]; rfl) (arr_all_bv _ _) ?_; rw [World.setRow_alloc_new])
        | (refine wpList_load_arr rfl 30 _ rfl wr.heap.size rfl 30 (arr 32 fun i => bv (f i)) _ (Blk.newAt wr _ rfl rfl) Tryd.underlying30 rfl (by rw [arr_size]; kernel_rfl) ?_)
        | (go_at_call 44; refine HP.out.mono ?_; rintro e W3 ⟨rfl, hq⟩; have Q3 := Lib.hid hq; clear hq))
      go_roundw
      case rel => exact ⟨k + 1, by omega, by go_num, Q3.out⟩
      case measure => simp [intOf]; omega
    · obtain rfl : k = n := by omega
      have e : l.take k = l := by rw [← HNL.out]; simp
      rw [e] at hL
      have HL := Lib.hid hL
      clear hL e
      go_wp2
      go_ret
      exact ⟨rfl, HL.out⟩
set_option maxRecDepth 100000 in
set_option maxHeartbeats 2000000 in
theorem treeSize_any (Z : Nat → Prop) (g : Nat) (L : List D) (w : World) (h : TreeAt w Z g L) :
    Calls Tryd.prog 23 #[.pointer (some ⟨g, 0, none⟩)] w fun e w' => e = .returned (.int .i64 (L.length : Int)) ∧ w' = w := by
  obtain ⟨v1, hB, _⟩ := id h
  have c0 : w.cell? ⟨g, 0, none⟩ = some (.int .i64 (L.length : Int)) := hB.cell 0
  obtain ⟨m, hm⟩ : ∃ m, L.length = m := ⟨_, rfl⟩
  rw [hm] at c0 ⊢
  clear h hB hm
  go_enter Tryd.func23, Tryd.ntmps23
  go_wp2
  go_ret
  exact ⟨rfl, rfl⟩
set_option maxRecDepth 100000 in
set_option maxHeartbeats 2000000 in
theorem treeTops_any (Z : Nat → Prop) (g : Nat) (L : List D) (w : World) (h : TreeAt w Z g L) :
    Calls Tryd.prog 25 #[.pointer (some ⟨g, 0, none⟩)] w fun e w' => ∃ v', e = .returned v' ∧ w'.ownsRow w.heap.size 30 32 v' (tops L).length (idCells (tops L)) ∧ Below w.heap.size w w' := by
  obtain ⟨v1, hB, hO, _, _, _, hp, hle⟩ := id h
  have c1 : w.cell? ⟨g, 1, none⟩ = some v1 := hB.cell 1
  have hpl : (tops L).length ≤ 1000 := by
    have := pop_le 41 L.length (by omega)
    omega
  have hr := own_rd hO (by omega)
  have HC := Lib.hid (clone_any v1 (tops L) w (hr.mono fun b hb => hb.2.2))
  obtain ⟨A, c, rfl, _⟩ := own_len hO
  generalize (tops L).length = q at c1 HC hp hpl ⊢
  generalize idCells (tops L) = xs at HC ⊢
  clear h hB hO hr hp hpl hle
  go_enter Tryd.func25, Tryd.ntmps25
  go_wp2_with (go_at_call 49; refine HC.out.mono ?_; rintro e W3 ⟨v', rfl, hq⟩; have Q3 := Lib.hid hq; clear hq)
  go_ret
  exact ⟨_, rfl, Q3.out⟩
end Go.Proofs.YtkkanaefngggoaaDoor
