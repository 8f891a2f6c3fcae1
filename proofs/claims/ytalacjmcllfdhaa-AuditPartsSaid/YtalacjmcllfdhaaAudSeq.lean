/-
  Audit: the iterator over the pairs of so many. No condition.
-/
import Derived.Test.YtalacjmcllfdhaaAudNum
import Derived.Test.YtalacjmcllfdhaaRound
import Derived.Shelf.RegionOpen
import Derived.TacticsInMore
import Derived.LoopNIn
import Derived.LoopIn
namespace Go.Proofs.Ytalacjmcllfdhaa
open Go Go.RowKit Go.Maps
attribute [local go_sem] Oper.semAt_some

/-- Marks of loops that are over. -/
def Marks (B : Nat) : List Deferred → World → Prop
  | [], _ => True
  | d :: ds, w => ∃ D, d = { target := .collected D, args := #[] } ∧ B ≤ D ∧ w.heap[D]? = some (.deferred (some [])) ∧ (∀ e ∈ ds, e.target ≠ .collected D) ∧ Marks B ds w
theorem Marks.keep {B : Nat} : ∀ {ds : List Deferred} {w w' : World}, Marks B ds w → (∀ D, B ≤ D → D < w.heap.size → w.heap[D]? = some (.deferred (some [])) → (∃ e ∈ ds, e.target = .collected D) → w'.heap[D]? = some (.deferred (some []))) → Marks B ds w'
  | [], _, _, _, _ => trivial
  | d :: ds, w, w', ⟨D, h1, h2, h3, h4, h5⟩, hk => ⟨D, h1, h2, hk D h2 (Array.getElem?_eq_some_iff.1 h3).1 h3 ⟨d, by simp, by rw [h1]⟩, h4, h5.keep fun D' a b c ⟨e, he, hc⟩ => hk D' a b c ⟨e, List.mem_cons_of_mem _ he, hc⟩⟩
theorem leaves_marks {F : Fence} {n : Nat} {P : Program} {fn : Func} {tmps : Array Value} {R : Ending → World → Prop} {u : FrameMode} (hu : u ≠ .run) {B : Nat} : ∀ (ds : List Deferred) (w : World), Marks B ds w → (∀ w', Below B w w' → LeavesIn F n P fn tmps R [] u w') → LeavesInM F n P fn tmps R ds u w
  | [], w, _, h => h w (Below.refl _ _)
  | d :: ds, w, ⟨D, h1, h2, h3, h4, h5⟩, h => by
    subst h1
    refine ⟨hu, .inl ⟨D, _, rfl, run_takeDeferred h3, ?_⟩⟩
    refine leaves_marks hu ds _ (h5.keep fun D' _ _ hd ⟨e, he, hc⟩ => (World.putObj_heap_other (fun e' => h4 e he (by rw [hc, e']))).trans hd) fun w' hb => ?_
    exact h w' ((below_putObj (Below.refl _ _) _ h2).trans hb)
theorem Blk.putObj {W : World} {g l : Nat} {t : TypeId} {cs : Array Value} {o : Obj} (h : Blk W g t cs) (o' : Obj) (hl : W.heap[l]? = some o) (ho : o.isCells = false) : Blk (W.putObj l o') g t cs := by
  refine (World.putObj_heap_other (fun e => ?_)).trans h
  subst e
  unfold Blk at h
  rw [h] at hl
  cases hl
  cases ho
def encP (p : Nat × Nat) : Array Value := #[.int .i64 (p.1 : Int), .int .i64 (p.2 : Int)]
set_option maxRecDepth 100000 in
set_option maxHeartbeats 4000000 in
theorem pairs_any (n : Int) (W : World) :
    Calls Try.prog 16 #[.int .i64 n] W fun e w' => e = .returned (.func (.func 19) #[] #[.pointer (some ⟨W.heap.size, 0, none⟩)]) ∧ Blk w' W.heap.size 3 #[.int .i64 n] ∧ Below W.heap.size W w' := by
  go_enter Try.func16, Try.ntmps16
  go_wp2_with fail
  go_ret
  exact ⟨rfl, Blk.newAt _ _ rfl rfl, (Below.refl _ W).alloc (Nat.le_refl _) _⟩
set_option maxRecDepth 100000 in
set_option maxHeartbeats 4000000 in
theorem pairs_seq (b n : Nat) (own : Nat → Prop) (w : World) (hn : n ≤ 1000) :
    SeqD Try.prog 19 #[.pointer (some ⟨b, 0, none⟩)] encP own (fun W => Blk W b 3 #[.int .i64 (n : Int)]) (pairsL n) w := by
  intro y J Jx W hW hJ hJx hInv hY h0
  have hI0 := hInv _ _ h0
  have cb0 : W.cell? ⟨b, 0, none⟩ = some (.int .i64 (n : Int)) := by rw [hI0.cell]; rfl
  have H0 := Lib.hid h0
  have HINV := Lib.hid hInv
  have HY := Lib.hid hY
  clear hW hJ hJx hY h0 hInv hI0
  refine callsIn_of_wp Try.func19 rfl trivial ?_ rfl
  simp only [Try.ntmps19, List.size_toArray, List.length_cons, List.length_nil, Nat.reduceAdd, Nat.reduceSub, Array.replicate_succ, Array.replicate_zero, List.push_toArray, List.append_toArray, List.nil_append, List.cons_append]
  gi_wp2
  gi_loopw [6] (fun i wr => ∃ a : Nat, a ≤ n ∧ i = .int .i64 (a : Int) ∧ J (rowsTo n a) wr ∧ W.heap.size ≤ wr.heap.size) (fun i _ => n - (intOf i).toNat)
  case atStart => exact ⟨0, Nat.zero_le _, rfl, H0.out, Nat.le_refl _⟩
  case round =>
    obtain ⟨a, ha, rfl, hJa, hsz⟩ := hrel
    by_cases han : a < n
    · have hai : (a : Int) < (n : Int) := by omega
      have HJA := Lib.hid (And.intro hJa hsz)
      obtain ⟨wa, hwa⟩ : ∃ z, z = wr := ⟨_, rfl⟩
      subst hwa
      clear hJa hsz cb0 H0
      gi_wp2
      gi_loopw [4] (fun i wr => ∃ c : Nat, a + 1 ≤ c ∧ c ≤ n ∧ i = .int .i64 (c : Int) ∧ J (rowsTo n a ++ rowTo a (c - (a + 1))) wr ∧ W.heap.size ≤ wr.heap.size) (fun i _ => n - (intOf i).toNat)
      case atStart => exact ⟨a + 1, Nat.le_refl _, by omega, by go_num, by rw [Nat.sub_self, rowTo_zero, List.append_nil]; exact HJA.out.1, HJA.out.2⟩
      case round =>
        clear HJA
        obtain ⟨c, hc1, hc2, rfl, hJc, hsz⟩ := hrel
        have cb1 : wr.cell? ⟨b, 0, none⟩ = some (.int .i64 (n : Int)) := by rw [(HINV.out _ _ hJc).cell]; rfl
        by_cases hcn : c < n
        · have hci : (c : Int) < (n : Int) := by omega
          have HPF : Hid ((rowsTo n a ++ rowTo a (c - (a + 1)) ++ [(a, c)]) <+: pairsL n) := Lib.hid (by
            have := pairs_pre (n := n) (a := a) (m := c - (a + 1)) han (by omega)
            rw [show a + 1 + (c - (a + 1)) = c by omega] at this
            exact this)
          have HNX := Lib.hid (rowTo_next hc1)
          have HSZ := Lib.hid hsz
          obtain ⟨fn, tm, assign, bd, hy, hR1⟩ := HY.out _ (a, c) wr HPF.out hJc
          dsimp only [encP] at hy
          clear hJc hsz
          gi_wp2_with (first
            | (refine ⟨rfl, ?_⟩; refine hR1.mono ?_; clear hR1; rintro e W' (⟨rfl, hJ3, hk3, _⟩ | ⟨rfl, hJx3, _⟩)))
          · refine ⟨⟨c + 1, by omega, by omega, by rfl, ?_, Nat.le_trans HSZ.out hk3.size⟩, ?_⟩
            · rw [HNX.out, ← List.append_assoc]
              exact hJ3
            · simp only [intOf]
              omega
          · refine bodyPost_ret (results_none rfl _ _ _) rfl ?_
            exact ⟨⟨_, rfl⟩, .inr ⟨_, HPF.out, by simp, hJx3⟩⟩
        · obtain rfl : c = n := by omega
          have HJN : Hid (J (rowsTo c (a + 1)) wr) := Lib.hid (by rw [rowsTo_succ]; exact hJc)
          have HSZ := Lib.hid hsz
          clear hJc hsz
          gi_wp2
          refine ⟨⟨a + 1, by omega, by rfl, HJN.out, HSZ.out⟩, ?_⟩
          simp only [intOf]
          omega
    · obtain rfl : a = n := by omega
      have HJN : Hid (J (pairsL a) wr) := Lib.hid hJa
      clear hJa hsz
      gi_wp2
      go_end0
      exact ⟨⟨_, rfl⟩, .inl HJN.out⟩
end Go.Proofs.Ytalacjmcllfdhaa
