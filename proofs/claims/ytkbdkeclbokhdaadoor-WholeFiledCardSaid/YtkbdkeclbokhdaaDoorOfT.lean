/-
  The sum of parts: for every list of parts of bytes, together shorter than 2^60, in whatever memory in which the two tables read as they are laid: the call returns the sum of all their bytes, one behind the other; what lay there lies as it lay.
-/
import Derived.Test.YtkbdkeclbokhdaaDoorIterT
import Derived.Test.YtkbdkeclbokhdaaDoorQ7
namespace Go.Proofs.YtkbdkeclbokhdaaDoor
open Go Go.RowKit Go.Shelf
attribute [local go_sem] Oper.semAt_some

/-- The two tables of the program. -/
def Tables (w : World) : Prop := (∀ i, i < 8 → w.cell? ⟨0, i, none⟩ = some (u (hAt i))) ∧ (∀ i, i < 64 → w.cell? ⟨1, i, none⟩ = some (u (kAt i)))
theorem Tables.below {w w' : World} (h : Tables w) (hb : Below w.heap.size w w') : Tables w' :=
  ⟨fun i hi => (hb.cell (p := ⟨0, i, none⟩) (block_lt_of_cell (h.1 i hi))).trans (h.1 i hi), fun i hi => (hb.cell (p := ⟨1, i, none⟩) (block_lt_of_cell (h.2 i hi))).trans (h.2 i hi)⟩
theorem Blk.putObj {W : World} {g l : Nat} {t : TypeId} {cs : Array Value} {o : Obj} (h : Blk W g t cs) (o' : Obj) (hl : W.heap[l]? = some o) (ho : o.isCells = false) : Blk (W.putObj l o') g t cs := by
  refine (World.putObj_heap_other (fun e => ?_)).trans h
  subst e
  unfold Blk at h
  rw [hl] at h
  cases h
  cases ho

set_option maxRecDepth 100000 in
set_option maxHeartbeats 1000000 in
theorem of_any (Ap : Option Addr) (cp : Nat) (ps : List (List UInt8)) (hps : ps.length ≤ 140737488351232) (hL : ps.flatten.length < 1152921504606846976) (w : World) (hT : Tables w) (hr : RdP w (fun b => b < w.heap.size) Ap ps) :
    CallsIn Fence.wide 0 Tryd.prog 70 #[.slice Ap ps.length cp] w fun e w' => e = .returned (shaV ps.flatten) ∧ Below w.heap.size w w' := by
  have HT := Lib.hid hT
  have HR := Lib.hid hr
  clear hT hr
  refine callsIn_of_wp_marks Tryd.func70 rfl trivial ?_ rfl
  simp only [Tryd.ntmps70, List.size_toArray, List.length_cons, List.length_nil, Nat.reduceAdd, Nat.reduceSub, Array.replicate_succ, Array.replicate_zero, List.push_toArray, List.append_toArray, List.nil_append, List.cons_append]
  have hH : ∀ i, i < 8 → (w.alloc (.cells (Array.replicate 32 (bv 0)) 37)).cell? ⟨0, i, none⟩ = some (u (hAt i)) := fun i hi => (World.cell?_alloc_lt w _ _ (block_lt_of_cell (HT.out.1 i hi))).trans (HT.out.1 i hi)
  have hR0 : Blk ((w.alloc (.cells (Array.replicate 32 (bv 0)) 37)).alloc (.cells (Array.replicate 8 (u 0)) 143)) w.heap.size 37 (Array.replicate 32 (bv 0)) := (Blk.new w _ _).alloc _
  have hS0 : Blk ((w.alloc (.cells (Array.replicate 32 (bv 0)) 37)).alloc (.cells (Array.replicate 8 (u 0)) 143)) (w.heap.size + 1) 143 (Array.replicate 8 (u 0)) := Blk.newAt _ _ (by simp) rfl
  have hb0 : Below w.heap.size w ((w.alloc (.cells (Array.replicate 32 (bv 0)) 37)).alloc (.cells (Array.replicate 8 (u 0)) 143)) := ((Below.refl _ w).alloc (Nat.le_refl _) _).alloc (by simp) _
  have HX : Hid (∀ W2, Blk W2 (w.heap.size + 1) 143 (arr 8 fun i => u (hAt i)) → W2.heap.size = w.heap.size + 2 → Below (w.heap.size + 1) ((w.alloc (.cells (Array.replicate 32 (bv 0)) 37)).alloc (.cells (Array.replicate 8 (u 0)) 143)) W2 →
      Blk W2 w.heap.size 37 (Array.replicate 32 (bv 0)) ∧ Below w.heap.size w W2) := Lib.hid fun W2 h1 h2 h3 => ⟨hR0.below h3 (by omega), hb0.trans (h3.mono (by omega))⟩
  clear hR0 hb0
  gi_wp2_with (first
    | (refine wpListIn_load_cells (fun _ => trivial) rfl 143 _ rfl 0 rfl 8 (fun i => u (hAt i)) 142 hH Tryd.underlying143 (by kernel_rfl) ?_)
    | (refine wpListIn_store_arrW (fun _ => trivial) rfl 143 _ _ rfl (w.heap.size + 1) (arr 8 fun i => u (hAt i)) rfl rfl 143 _ hS0 (by rw [arr_size]; kernel_rfl) (by rw [arr_size]; rfl) (arr_all_u _ _) ?_; intro W2 hS2 hz2 hb2 _ _; obtain ⟨hR2, hbw⟩ := HX.out W2 hS2 (by simpa using hz2) hb2)
    | (refine ⟨trivial, rfl, ?_⟩; gi_at_call 81; refine (blocks_any _ _ _ _).mono ?_; rintro e w' ⟨rfl, rfl⟩))
  have hz2' : W2.heap.size = w.heap.size + 2 := by simpa using hz2
  have hS3 := hS2.alloc (.cells #[.slice Ap ps.length cp] 57)
  have hR3 := hR2.alloc (.cells #[.slice Ap ps.length cp] 57)
  have hb3 : Below w.heap.size w (W2.alloc (.cells #[.slice Ap ps.length cp] 57)) := hbw.alloc hbw.size _
  have hX3 : (W2.alloc (.cells #[.slice Ap ps.length cp] 57)).cell? ⟨W2.heap.size, 0, none⟩ = some (.slice Ap ps.length cp) := (Blk.new W2 57 #[.slice Ap ps.length cp]).cell 0
  have hz3 : (W2.alloc (.cells #[.slice Ap ps.length cp] 57)).heap.size = w.heap.size + 3 := by simp; omega
  rw [hz2'] at hX3
  clear hz2' hz2 hS2 hR2 hbw hb2 HX hS0 hH
  generalize W2.alloc (.cells #[.slice Ap ps.length cp] 57) = W3 at *
  have HZ := Lib.hid hz3
  refine wpIn_rangeFunc_C (gf := 85) (lb := #[.pointer (some ⟨w.heap.size + 1 + 1, 0, none⟩)]) rfl (enters_of Tryd.func85 (by kernel_rfl) rfl)
    (blocks_seq (fun b => b = w.heap.size + 1) (w.heap.size + 2) Ap cp ps hps hL W3 (fun b hb => by subst hb; omega) hX3 (by omega)
      (fun k hk => by
        obtain ⟨ad, v, e1, e2, e3, A, c, e4, e5, e6, e7⟩ := (HR.out.kept (W' := W3) fun a x ha h => (hb3.cell (p := a) ha).trans h) k hk
        exact ⟨ad, v, e1, ⟨by omega, by omega⟩, e3, A, c, e4, e5, e6, fun h => by
          obtain ⟨ad', f1, f2, f3⟩ := e7 h
          exact ⟨ad', f1, ⟨by omega, by omega⟩, f3⟩⟩)) (fun _ => rfl)
    (fun pre W => Blk W (w.heap.size + 1) 143 (arr 8 fun i => u (shaSt pre i)) ∧ Blk W w.heap.size 37 (Array.replicate 32 (bv 0)) ∧ Below w.heap.size w W)
    (fun _ _ _ => False)
    (fun s A B hs hb => ⟨hs.1.below hb (by omega), hs.2.1.below hb (by omega), hs.2.2.trans (hb.mono (by omega))⟩)
    (fun _ _ _ _ hs _ => hs)
    ⟨hS3, hR3, hb3⟩
    (fun x a' W => ∃ Bx, w.heap.size + 3 ≤ Bx ∧ Blk W Bx 147 (arr 64 fun i => bv (x i)) ∧ a' = { tmps := #[.slice Ap ps.length cp, undef, .pointer (some ⟨w.heap.size, 0, none⟩), .pointer (some ⟨w.heap.size + 1, 0, none⟩), .pointer (some ⟨Bx, 0, none⟩), .agg (arr 8 fun i => u (hAt i)), .slice Ap ps.length cp, .func (.func 85) #[] #[.pointer (some ⟨w.heap.size + 1 + 1, 0, none⟩)], .agg (arr 64 fun i => bv (x i)), undef, undef, undef, undef, undef], defers := [] })
    (fun x a' W l o o' _ h1 h2 h3 => by
      obtain ⟨Bx, q1, q2, q3⟩ := h3
      exact ⟨Bx, q1, q2.putObj o' h1 h2, q3⟩) ?assign ?body ?done ?stop
  case assign =>
    intro l pre x W K hlt hpre hi hK
    have hB0 : Blk (W.alloc (.cells (Array.replicate 64 (bv 0)) 147)) W.heap.size 147 (Array.replicate 64 (bv 0)) := Blk.newAt _ _ rfl rfl
    have HI := Lib.hid hi
    clear hi hS3 hR3 hb3 hX3
    gi_wp2_with (refine wpListIn_store_arrW (fun _ => trivial) rfl 147 _ _ rfl W.heap.size (arr 64 fun i => bv (x i)) rfl rfl 147 _ hB0 (by rw [arr_size]; kernel_rfl) (by rw [arr_size]; rfl) (arr_all_bv _ _) ?_; intro W5 hS5 hz5 hb5 _ _)
    have hbel : Below W.heap.size W W5 := ((Below.refl _ W).alloc (Nat.le_refl _) _).trans hb5
    have hi := HI.out
    exact hK _ _ (keepsFrom_of_below hbel) (.of_below hbel) ⟨hi.1.below hbel hi.1.lt, hi.2.1.below hbel hi.2.1.lt, hi.2.2.trans (hbel.mono hi.2.2.size)⟩ ⟨W.heap.size, by have := HZ.out; omega, hS5, rfl⟩
  case body =>
    rintro l pre x a' W hl hlt hpre ⟨hS, hR, hb⟩ ⟨Bx, hBx, bX, rfl⟩
    have hT : Hid (∀ i, i < 64 → W.cell? ⟨1, i, none⟩ = some (u (kAt i))) := Lib.hid ((HT.out.below hb).2)
    have HB := Lib.hid hb
    have HRR := Lib.hid hR
    have HSZ : Hid (w.heap.size + 1 < W.heap.size) := Lib.hid hS.lt
    clear hb hR hS3 hR3 hb3 hX3
    gi_wp2_with (first
      | (refine wpListIn_load_arr (fun _ => trivial) rfl 143 _ rfl (w.heap.size + 1) rfl 143 _ _ hS Tryd.underlying143 rfl (by rw [arr_size]; kernel_rfl) ?_)
      | (refine wpListIn_load_arr (fun _ => trivial) rfl 147 _ rfl Bx rfl 147 _ _ bX Tryd.underlying147 rfl (by rw [arr_size]; kernel_rfl) ?_)
      | (refine ⟨trivial, rfl, ?_⟩; gi_at_call 82; refine (CallsIn.inRound l (callsIn_wide.2 (mix_any (shaSt pre) x _ hT.out))).mono ?_; rintro e W6 ⟨rfl, hb6⟩; have hS6 := hS.below hb6 HSZ.out)
      | (refine wpListIn_store_arrW (fun _ => trivial) rfl 143 _ _ rfl (w.heap.size + 1) (arr 8 fun i => u (mixed (shaSt pre) (wv x) i)) rfl rfl 143 _ hS6 (by rw [arr_size]; kernel_rfl) (by rw [arr_size, arr_size]) (arr_all_u _ _) ?_; intro W7 hS7 hz7 hb7 hk7 hq7))
    refine ⟨keepsFrom_trans (keepsFrom_of_below hb6) (keepsFrom_row hS6 (by omega) hq7), (Keep.of_below hb6).trans hk7, ?_, ?_, ?_⟩
    · rw [shaSt_snoc]; exact hS7
    · exact (HRR.out.below hb6 HRR.out.lt).below hb7 (by omega)
    · exact (HB.out.trans (hb6.mono HB.out.size)).trans (hb7.mono (by omega))
  case done =>
    rintro D W hD ⟨hS, hR, hb⟩ hK
    have HB := Lib.hid hb
    have HSZ : Hid (w.heap.size + 1 < W.heap.size) := Lib.hid hS.lt
    have HD := Lib.hid hK
    have HRR := Lib.hid hR
    clear hb hK hR hS3 hR3 hb3 hX3
    gi_wp2_with (first
      | (refine wpListIn_load_arr (fun _ => trivial) rfl 143 _ rfl (w.heap.size + 1) rfl 143 _ _ hS Tryd.underlying143 rfl (by rw [arr_size]; kernel_rfl) ?_)
      | (refine ⟨trivial, rfl, ?_⟩; gi_at_call 83; refine (callsIn_wide.2 (id_any (shaSt (allBlocks ps.flatten)) _)).mono ?_; rintro e W6 ⟨rfl, hb6⟩; have hR6 := HRR.out.below hb6 HRR.out.lt)
      | (refine wpListIn_store_arrW (fun _ => trivial) rfl 37 _ _ rfl w.heap.size (arr 32 fun i => bv (idByte (shaSt (allBlocks ps.flatten)) i)) rfl rfl 37 _ hR6 (by rw [arr_size]; kernel_rfl) (by rw [arr_size]; rfl) (arr_all_bv _ _) ?_; intro W7 hR7 hz7 hb7 hk7 hq7))
    have hDW : D < W.heap.size := (Array.getElem?_eq_some_iff.1 HD.out).1
    have hD7 : W7.heap[D]? = some (.deferred (some [])) := (hq7 D (by have := HZ.out; omega)).trans ((hb6.block D hDW).trans HD.out)
    refine ⟨by simp, .inl ⟨_, _, rfl, run_takeDeferred hD7, ?_⟩⟩
    exact ⟨_, results_cell_row (p := 2) (ty := 37) rfl _ _ w.heap.size 37 _ (0, 0) _ rfl (hR7.putObj _ hD7 rfl) Tryd.underlying37 rfl (by rw [arr_size]; kernel_rfl), rfl,
      below_putObj ((HB.out.trans (hb6.mono HB.out.size)).trans hb7) _ (by have := HZ.out; omega)⟩
  case stop =>
    rintro D c pre W _ _ _ h _
    exact h.elim
end Go.Proofs.YtkbdkeclbokhdaaDoor
