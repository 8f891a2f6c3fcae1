/-
  One's way to agreement: what one proposes, who proposes. No condition.
-/
import Derived.Test.YtbgojlcciealiaaRndSet
namespace Go.Proofs.Ytbgojlcciealiaa
open Go Go.RowKit Go.Maps

/-- A block of its own, stored whole. -/
theorem oper_store_own {P : Program} {o : Oper} {a : Act} {w : World} {K : Act → World → Prop} {Q : Exit → Act → World → Prop} (ty : TypeId) (N : Nat) (x y : Operand) (ho : o.op = .store ty x y) (g : Nat) (xs : List Value) (hN : xs.length = N) (h1 : ∀ u ∈ xs, u.oneCell' = true) (hx : a.eval x = .pointer (some ⟨g, 0, none⟩)) (hy : a.eval y = .agg xs.toArray)
    (t : TypeId) (old : Array Value) (hg : Blk w g t old) (hold : old.size = N) (hi : (P.info? ty).map (·.size) = some N) (h : ∀ w', Blk w' g t xs.toArray → w.grownBy w' (some g) → w'.heap.size = w.heap.size → K (a.put o.dst undef) w') : Oper.wp P o a w K Q := by
  rw [arr_ofG hold] at hg
  refine oper_store_at ty x y ho g 0 N _ xs h1 hx hy t hg (by rw [hN]; exact hi) (by omega) ?_
  intro w' hw
  subst hw
  have e : arr N (putW (fun i => old.getD i undef) 0 xs) = xs.toArray := by
    refine Array.ext_getElem? fun i => ?_
    rw [arr_get]
    unfold putW
    rw [hN, List.getElem?_toArray]
    by_cases hi : i < N
    · rw [if_pos hi, if_pos (by omega), Nat.sub_zero, List.getD_eq_getElem?_getD, List.getElem?_eq_getElem (by omega)]
      rfl
    · rw [if_neg hi, List.getElem?_eq_none (by omega)]
  rw [e]
  exact h _ (hg.setRow _) (grown_row _ _ _) (size_setRow _ _ _)
theorem results_offer {fn : Func} {p : Tmp} (h : fn.results = #[.cell p 127]) (tmps : Array Value) (w : World) (g : Nat) (t : TypeId) (o : OfferS) (ho : IdOk o.id) (hp : tmps.getD p undef = .pointer (some ⟨g, 0, none⟩)) (hg : Blk w g t (offC o).toArray) :
    (results fn tmps).run Try.prog w = .ok (.agg (offC o).toArray) w :=
  results_cell_row h tmps w g t (offC o).toArray (0, 0) _ hp hg Try.underlying127 rfl (by rw [List.size_toArray, offC_length ho]; exact offer_info)
/-- What one has to propose. -/
def propS (s : RdS) : OfferS := if 0 < s.bestR then ⟨true, s.bestR, s.best⟩ else ⟨!(s.fresh == zeroId), 0, s.fresh⟩
theorem propS_ok {s : RdS} (h : RdOk s) : IdOk (propS s).id := by
  unfold propS
  split
  · exact h.best
  · exact h.fresh
theorem yields_neI {ops : Array Oper} {S : World → Prop} {op : Oper} {a : Act} (hw : Region.wanted op (yielded ops a.tmps) = true) (x y : Operand) (ho : op.op = .binOp .neq 24 x y 24)
    (l k : List UInt8) (hx : a.eval x = idv l) (hy : a.eval y = idv k) (hl : IdOk l) (hk : IdOk k) : YieldsIf Try.prog ops S op (.bool (!(l == k))) a :=
  .inl ⟨hw, fun w _ => by
    have h1 := guardn_idv x y l k w
    have h2 := neq_idv hl hk w
    unfold execOp
    simp only [ho, hx, hy, Sem.run_bind, h1, h2, Sem.run_pure, Result.andThen_ok]⟩
set_option maxRecDepth 100000 in
theorem offer_fill2 (b : Bool) (f : Nat → UInt8) : Try.prog.built 127 [(0, .bool b), (2, .agg (idC ((List.range 32).map f)))] = some (offC ⟨b, 0, (List.range 32).map f⟩).toArray := by kernel_rfl
theorem offer_built2 (b : Bool) (id : List UInt8) (h : IdOk id) : Try.prog.built 127 [(0, .bool b), (2, idv id)] = some (offC ⟨b, 0, id⟩).toArray := by
  rw [id_range h]
  exact offer_fill2 b _
set_option maxRecDepth 100000 in
set_option maxHeartbeats 8000000 in
theorem prop_best {W : World} {B C M n : Nat} {kv : Value} {s : RdS} (h : RoundAt W B C M n kv s) (hs : 0 < s.bestR) : Calls Try.prog 72 #[.pointer (some ⟨B, 0, none⟩)] W fun e w' => e = .returned (.agg (offC ⟨true, s.bestR, s.best⟩).toArray) ∧ Below W.heap.size W w' := by
  have HR := Lib.hid h
  have HS := Lib.hid hs
  clear h
  go_enter Try.func72, Try.ntmps72
  go_upto_region 1 with fail
  generalize hW : World.alloc _ _ = W1
  have hb1 : Below W.heap.size W W1 := by rw [← hW]; exact (Below.refl _ _).alloc (Nat.le_refl _) _
  obtain ⟨old, hk1, ho1⟩ : ∃ old, Blk W1 W.heap.size 127 old ∧ old.size = 34 := by rw [← hW]; exact ⟨_, Blk.newAt _ _ rfl rfl, rfl⟩
  have HB1 := Lib.hid hb1
  have HK1 := Lib.hid hk1
  have HO1 := Lib.hid ho1
  have HR1 := Lib.hid (HR.out.below hb1)
  have c70 : W1.cell? ⟨B, 70, none⟩ = some (.int .i64 s.bestR) := HR1.out.cell (i := 70) (by omega)
  clear hb1 hk1 ho1 hW
  go_upto_region 2 with fail
  refine wp_region_held_drew (S := fun W' => W'.cell? ⟨B, 70, none⟩ = some (.int .i64 s.bestR) ∧ (Instr.loadAt 24 (.pointer (some ⟨B, 71, none⟩))).run Try.prog W' = .ok (idv s.best) W') (by kernel_rfl) ?_ (fun hHeld => ?_)
  · exact ⟨c70, (HR1.out.below (Below.refl _ W1).drew).loadBest⟩
  refine tkH (v := ?_) 0 ⟨some 9, _, _, _, _, _⟩ rfl (Or.inl ⟨by rfl, ?_⟩) ?_
  rotate_left
  · intro w hSw; (try dsimp only at hSw); go_simp; try (with_reducible rfl)
  try simp only [Act.put, nz1, nz2, nz3]
  refine tkH (v := ?_) 1 ⟨some 10, _, _, _, _, _⟩ rfl (Or.inl ⟨by rfl, ?_⟩) ?_
  rotate_left
  · intro w hSw; (try dsimp only at hSw); go_simp; try (with_reducible rfl)
  try simp only [Act.put, nz1, nz2, nz3]
  refine tkH (v := ?_) 2 ⟨some 11, _, _, _, _, _⟩ rfl (Or.inl ⟨by rfl, ?_⟩) ?_
  rotate_left
  · intro w hSw; (try dsimp only at hSw); go_simp; try (with_reducible rfl)
  try simp only [Act.put, nz1, nz2, nz3]
  refine tkH (v := ?_) 3 ⟨some 12, _, _, _, _, _⟩ rfl (Or.inl ⟨by rfl, ?_⟩) ?_
  rotate_left
  · intro w hSw; (try dsimp only at hSw); go_simp; try (with_reducible rfl)
  try simp only [Act.put, nz1, nz2, nz3]
  refine tkH (v := (.int .i64 s.bestR)) 4 ⟨some 13, _, _, _, _, _⟩ rfl (yields_one (by rfl) 3 _ rfl ⟨B, 70, none⟩ rfl _ _ (fun W' hS => hS.1) Try.underlying3 rfl) ?_
  try simp only [Act.put, nz1, nz2, nz3]
  refine tkH (v := ?_) 5 ⟨some 14, _, _, _, _, _⟩ rfl (Or.inl ⟨by rfl, ?_⟩) ?_
  rotate_left
  · intro w hSw; (try dsimp only at hSw); go_simp; try (with_reducible rfl)
  try simp only [Act.put, nz1, nz2, nz3]
  refine tkH (v := ?_) 6 ⟨some 15, _, _, _, _, _⟩ rfl (Or.inl ⟨by rfl, ?_⟩) ?_
  rotate_left
  · intro w hSw; (try dsimp only at hSw); go_simp; try (with_reducible rfl)
  try simp only [Act.put, nz1, nz2, nz3]
  refine tkH (v := ?_) 7 ⟨some 16, _, _, _, _, _⟩ rfl (Or.inl ⟨by rfl, ?_⟩) ?_
  rotate_left
  · intro w hSw; (try dsimp only at hSw); go_simp; try (with_reducible rfl)
  try simp only [Act.put, nz1, nz2, nz3]
  refine tkH (v := ?_) 8 ⟨some 17, _, _, _, _, _⟩ rfl (Or.inl ⟨by rfl, ?_⟩) ?_
  rotate_left
  · intro w hSw; (try dsimp only at hSw); go_simp; try (with_reducible rfl)
  try simp only [Act.put, nz1, nz2, nz3]
  refine tkH (v := (idv s.best)) 9 ⟨some 18, _, _, _, _, _⟩ rfl (yields_run (by rfl) 24 _ rfl (.pointer (some ⟨B, 71, none⟩)) _ rfl (fun W' hS => hS.2)) ?_
  try simp only [Act.put, nz1, nz2, nz3]
  refine tkH (v := (.agg (offC ⟨true, s.bestR, s.best⟩).toArray)) 10 ⟨some 19, _, _, _, _, _⟩ rfl (yields_build (by rfl) 127 _ rfl [(0, .bool true), (1, .int .i64 s.bestR), (2, idv s.best)] rfl _ (offer_built true s.bestR s.best HR1.out.ok.best)) ?_
  try simp only [Act.put, nz1, nz2, nz3]
  refine wpAnyH_ready (rs := [11]) (by kernel_rfl) (by simp) ?_
  refine (AllReadyH.cons (o := ⟨none, _, _, _, _, _⟩) rfl (fun K hK => ?_) AllReadyH.nil)
  (try rw [if_pos (by rfl)])
  refine oper_store_own 127 34 _ _ rfl W.heap.size (offC ⟨true, s.bestR, s.best⟩) (offC_length HR1.out.ok.best) (offC_one _) rfl rfl 127 _ HK1.out.drew HO1.out offer_info ?_
  intro w9 hS9 hg9 hz9
  have hb9 : Below W.heap.size W w9 := HB1.out.drew.trans (below_of_grown hg9 (Nat.le_refl _) HB1.out.drew.size)
  have HR9 := Lib.hid (HR.out.below hb9)
  have HS9 := Lib.hid hS9
  have HB9 := Lib.hid hb9
  clear hS9 hg9 hz9 hb9
  try dsimp only
  refine hK.out _ _ (⟨HR9.out.cell (i := 70) (by omega), HR9.out.loadBest⟩) (fun hHeld => ?_)
  clear hK K
  try simp only [Act.put]
  refine wpAnyH_done (by kernel_rfl) ?_ _
  go_wp2_with fail
  refine bodyPost_ret (results_offer (p := 2) rfl _ _ W.heap.size 127 ⟨true, s.bestR, s.best⟩ HR1.out.ok.best rfl HS9.out) rfl ?_
  exact ⟨rfl, HB9.out⟩
set_option maxRecDepth 100000 in
set_option maxHeartbeats 8000000 in
theorem prop_fresh {W : World} {B C M n : Nat} {kv : Value} {s : RdS} (h : RoundAt W B C M n kv s) (hs : ¬ 0 < s.bestR) : Calls Try.prog 72 #[.pointer (some ⟨B, 0, none⟩)] W fun e w' => e = .returned (.agg (offC ⟨!(s.fresh == zeroId), 0, s.fresh⟩).toArray) ∧ Below W.heap.size W w' := by
  have HR := Lib.hid h
  have HS := Lib.hid hs
  clear h
  go_enter Try.func72, Try.ntmps72
  go_upto_region 1 with fail
  generalize hW : World.alloc _ _ = W1
  have hb1 : Below W.heap.size W W1 := by rw [← hW]; exact (Below.refl _ _).alloc (Nat.le_refl _) _
  obtain ⟨old, hk1, ho1⟩ : ∃ old, Blk W1 W.heap.size 127 old ∧ old.size = 34 := by rw [← hW]; exact ⟨_, Blk.newAt _ _ rfl rfl, rfl⟩
  have HB1 := Lib.hid hb1
  have HK1 := Lib.hid hk1
  have HO1 := Lib.hid ho1
  have HR1 := Lib.hid (HR.out.below hb1)
  have c70 : W1.cell? ⟨B, 70, none⟩ = some (.int .i64 s.bestR) := HR1.out.cell (i := 70) (by omega)
  clear hb1 hk1 ho1 hW
  go_upto_region 3 with fail
  refine wp_region_held_drew (S := fun W' => (Instr.loadAt 24 (.pointer (some ⟨B, 5, none⟩))).run Try.prog W' = .ok (idv s.fresh) W') (by kernel_rfl) ?_ (fun hHeld => ?_)
  · exact (HR1.out.below (Below.refl _ W1).drew).loadFresh
  refine tkH (v := ?_) 0 ⟨some 20, _, _, _, _, _⟩ rfl (Or.inl ⟨by rfl, ?_⟩) ?_
  rotate_left
  · intro w hSw; (try dsimp only at hSw); go_simp; try (with_reducible rfl)
  try simp only [Act.put, nz1, nz2, nz3]
  refine tkH (v := ?_) 1 ⟨some 21, _, _, _, _, _⟩ rfl (Or.inl ⟨by rfl, ?_⟩) ?_
  rotate_left
  · intro w hSw; (try dsimp only at hSw); go_simp; try (with_reducible rfl)
  try simp only [Act.put, nz1, nz2, nz3]
  refine tkH (v := ?_) 2 ⟨some 22, _, _, _, _, _⟩ rfl (Or.inl ⟨by rfl, ?_⟩) ?_
  rotate_left
  · intro w hSw; (try dsimp only at hSw); go_simp; try (with_reducible rfl)
  try simp only [Act.put, nz1, nz2, nz3]
  refine tkH (v := (idv s.fresh)) 3 ⟨some 23, _, _, _, _, _⟩ rfl (yields_run (by rfl) 24 _ rfl (.pointer (some ⟨B, 5, none⟩)) _ rfl (fun W' hS => hS)) ?_
  try simp only [Act.put, nz1, nz2, nz3]
  refine tkH (v := (.agg (idC zeroId))) 4 ⟨some 24, _, _, _, _, _⟩ rfl (yields_build (by rfl) 24 _ rfl [] rfl _ (by kernel_rfl)) ?_
  try simp only [Act.put, nz1, nz2, nz3]
  refine tkH (v := (.bool (!(s.fresh == zeroId)))) 5 ⟨some 25, _, _, _, _, _⟩ rfl (yields_neI (by rfl) _ _ rfl s.fresh zeroId rfl rfl HR1.out.ok.fresh zeroId_ok) ?_
  try simp only [Act.put, nz1, nz2, nz3]
  refine tkH (v := ?_) 6 ⟨some 26, _, _, _, _, _⟩ rfl (Or.inl ⟨by rfl, ?_⟩) ?_
  rotate_left
  · intro w hSw; (try dsimp only at hSw); go_simp; try (with_reducible rfl)
  try simp only [Act.put, nz1, nz2, nz3]
  refine tkH (v := ?_) 7 ⟨some 27, _, _, _, _, _⟩ rfl (Or.inl ⟨by rfl, ?_⟩) ?_
  rotate_left
  · intro w hSw; (try dsimp only at hSw); go_simp; try (with_reducible rfl)
  try simp only [Act.put, nz1, nz2, nz3]
  refine tkH (v := ?_) 8 ⟨some 28, _, _, _, _, _⟩ rfl (Or.inl ⟨by rfl, ?_⟩) ?_
  rotate_left
  · intro w hSw; (try dsimp only at hSw); go_simp; try (with_reducible rfl)
  try simp only [Act.put, nz1, nz2, nz3]
  refine tkH (v := (idv s.fresh)) 9 ⟨some 29, _, _, _, _, _⟩ rfl (yields_run (by rfl) 24 _ rfl (.pointer (some ⟨B, 5, none⟩)) _ rfl (fun W' hS => hS)) ?_
  try simp only [Act.put, nz1, nz2, nz3]
  refine tkH (v := (.agg (offC ⟨!(s.fresh == zeroId), 0, s.fresh⟩).toArray)) 10 ⟨some 30, _, _, _, _, _⟩ rfl (yields_build (by rfl) 127 _ rfl [(0, .bool (!(s.fresh == zeroId))), (2, idv s.fresh)] rfl _ (offer_built2 _ s.fresh HR1.out.ok.fresh)) ?_
  try simp only [Act.put, nz1, nz2, nz3]
  refine wpAnyH_ready (rs := [11]) (by kernel_rfl) (by simp) ?_
  refine (AllReadyH.cons (o := ⟨none, _, _, _, _, _⟩) rfl (fun K hK => ?_) AllReadyH.nil)
  (try rw [if_pos (by rfl)])
  refine oper_store_own 127 34 _ _ rfl W.heap.size (offC ⟨!(s.fresh == zeroId), 0, s.fresh⟩) (offC_length HR1.out.ok.fresh) (offC_one _) rfl rfl 127 _ HK1.out.drew HO1.out offer_info ?_
  intro w9 hS9 hg9 hz9
  have hb9 : Below W.heap.size W w9 := HB1.out.drew.trans (below_of_grown hg9 (Nat.le_refl _) HB1.out.drew.size)
  have HR9 := Lib.hid (HR.out.below hb9)
  have HS9 := Lib.hid hS9
  have HB9 := Lib.hid hb9
  clear hS9 hg9 hz9 hb9
  try dsimp only
  refine hK.out _ _ (HR9.out.loadFresh) (fun hHeld => ?_)
  clear hK K
  try simp only [Act.put]
  refine wpAnyH_done (by kernel_rfl) ?_ _
  go_wp2_with fail
  refine bodyPost_ret (results_offer (p := 2) rfl _ _ W.heap.size 127 ⟨!(s.fresh == zeroId), 0, s.fresh⟩ HR1.out.ok.fresh rfl HS9.out) rfl ?_
  exact ⟨rfl, HB9.out⟩
theorem prop_any {W : World} {B C M n : Nat} {kv : Value} {s : RdS} (h : RoundAt W B C M n kv s) : Calls Try.prog 72 #[.pointer (some ⟨B, 0, none⟩)] W fun e w' => e = .returned (.agg (offC (propS s)).toArray) ∧ Below W.heap.size W w' := by
  by_cases hs : 0 < s.bestR
  · have e : propS s = ⟨true, s.bestR, s.best⟩ := by unfold propS; rw [if_pos hs]
    rw [e]
    exact prop_best h hs
  · have e : propS s = ⟨!(s.fresh == zeroId), 0, s.fresh⟩ := by unfold propS; rw [if_neg hs]
    rw [e]
    exact prop_fresh h hs
end Go.Proofs.Ytbgojlcciealiaa
