/-
  The count of votes: who voted in a round, each once. No condition.
-/
import Derived.Test.YtbgojlcciealiaaCntSure
namespace Go.Proofs.Ytbgojlcciealiaa
open Go Go.RowKit Go.Maps
attribute [local go_sem] Oper.semAt_some

structure PresInv (d1 d2 B M n NN : Nat) (V : Vt) (r : Int) (W : World) : Prop where
  count : CountAt W B M n NN V
  k1 : Blk W d1 28 #[.pointer (some ⟨B, 0, none⟩)]
  k2 : Blk W d2 3 #[.int .i64 r]
/-- Who counts, of a kind. -/
def selL (V : Vt) (r : Int) (kk : Nat) (l : List (Nat × List UInt8)) : List (Nat × List UInt8) := if kk = 0 then l else l.filter fun p => (V r 0 p.1).isNone
def doneL (NN : Nat) (V : Vt) (r : Int) (kk : Nat) : List (Nat × List UInt8) := if kk = 0 then [] else if kk = 1 then castL NN V r 0 else presentL NN V r
theorem doneL_next (NN : Nat) (V : Vt) (r : Int) (kk : Nat) (h : kk < 2) : doneL NN V r (kk + 1) = doneL NN V r kk ++ selL V r kk (castL NN V r kk) := by
  have : kk = 0 ∨ kk = 1 := by omega
  rcases this with rfl | rfl <;> simp [doneL, selL, presentL]
theorem doneL_pre (NN : Nat) (V : Vt) (r : Int) (kk : Nat) (h : kk < 2) : doneL NN V r (kk + 1) <+: presentL NN V r := by
  have : kk = 0 ∨ kk = 1 := by omega
  rcases this with rfl | rfl
  · simp [doneL, presentL]
  · simp [doneL]
theorem selL_append (V : Vt) (r : Int) (kk : Nat) (l m : List (Nat × List UInt8)) : selL V r kk (l ++ m) = selL V r kk l ++ selL V r kk m := by
  unfold selL
  split
  · rfl
  · exact List.filter_append ..
theorem selL_pre (V : Vt) (r : Int) (kk : Nat) {l m : List (Nat × List UInt8)} (h : l <+: m) : selL V r kk l <+: selL V r kk m := by
  obtain ⟨t, rfl⟩ := h
  rw [selL_append]
  exact List.prefix_append _ _
theorem pres_pre (NN : Nat) (V : Vt) (r : Int) (kk : Nat) (h : kk < 2) {l : List (Nat × List UInt8)} (hl : l <+: castL NN V r kk) : doneL NN V r kk ++ selL V r kk l <+: presentL NN V r := by
  refine List.IsPrefix.trans ?_ (doneL_pre NN V r kk h)
  rw [doneL_next NN V r kk h]
  exact (List.prefix_append_right_inj _).2 (selL_pre V r kk hl)
theorem wpListIn_load_idvG {F : Fence} {n : Nat} {ops : Array Oper} {rest : List Oper} {o : Oper} {a : Act} {w : World} {Q : Exit → Act → World → Prop} (hF : ∀ f, F.fn f) (hw : Region.wanted o (yielded ops a.tmps) = true) (x : Operand) (ho : o.op = .load 24 x) (g : Nat) (l : List UInt8) (hx : a.eval x = .pointer (some ⟨g, 0, none⟩)) (hl : IdOk l) (t : TypeId) (hg : Blk w g t (idC l))
    (h : wpListIn F n Try.prog ops Q rest (a.put o.dst (idv l)) w) : wpListIn F n Try.prog ops Q (o :: rest) a w :=
  wpListIn_step fun K hK => by
    rw [if_pos hw]
    unfold Oper.wpIn
    refine ⟨fun f _ => hF f, ?_⟩
    rw [Oper.semAt_plain F _ _ (by rw [ho]; intro c hc; cases hc)]
    have hl2 : (Instr.loadAt 24 (.pointer (some ⟨g, 0, none⟩))).run Try.prog w = .ok (idv l) w := run_loadVar_row w g t 24 (idC l) (0, 0) _ hg Try.underlying24 rfl (by rw [idC_size hl]; exact id_info)
    simp [execOp, ho, hx, hl2, Result.andThen]
    exact hK _ _ h
/-- Marks of loops that are over. -/
def Marks (B : Nat) : List Deferred → World → Prop
  | [], _ => True
  | d :: ds, w => ∃ D, d = { target := .collected D, args := #[] } ∧ B ≤ D ∧ w.heap[D]? = some (.deferred (some [])) ∧ (∀ e ∈ ds, e.target ≠ .collected D) ∧ Marks B ds w
theorem Marks.keep {B : Nat} : ∀ {ds : List Deferred} {w w' : World}, Marks B ds w → (∀ D, B ≤ D → D < w.heap.size → w.heap[D]? = some (.deferred (some [])) → (∃ e ∈ ds, e.target = .collected D) → w'.heap[D]? = some (.deferred (some []))) → Marks B ds w'
  | [], _, _, _, _ => trivial
  | d :: ds, w, w', ⟨D, h1, h2, h3, h4, h5⟩, hk => ⟨D, h1, h2, hk D h2 (Array.getElem?_eq_some_iff.1 h3).1 h3 ⟨d, by simp, by rw [h1]⟩, h4, h5.keep fun D' a b c ⟨e, he, hc⟩ => hk D' a b c ⟨e, List.mem_cons_of_mem _ he, hc⟩⟩
theorem Marks.lt {B : Nat} : ∀ {ds : List Deferred} {w : World}, Marks B ds w → ∀ e ∈ ds, ∃ D, e.target = .collected D ∧ B ≤ D ∧ D < w.heap.size
  | d :: ds, w, ⟨D, h1, h2, h3, h4, h5⟩, e, he => by
    rcases List.mem_cons.1 he with rfl | he
    · exact ⟨D, by rw [h1], h2, (Array.getElem?_eq_some_iff.1 h3).1⟩
    · exact h5.lt e he
theorem leaves_marks {F : Fence} {n : Nat} {P : Program} {fn : Func} {tmps : Array Value} {R : Ending → World → Prop} {u : FrameMode} (hu : u ≠ .run) {B : Nat} : ∀ (ds : List Deferred) (w : World), Marks B ds w → (∀ w', Below B w w' → LeavesIn F n P fn tmps R [] u w') → LeavesInM F n P fn tmps R ds u w
  | [], w, _, h => h w (Below.refl _ _)
  | d :: ds, w, ⟨D, h1, h2, h3, h4, h5⟩, h => by
    subst h1
    refine ⟨hu, .inl ⟨D, _, rfl, run_takeDeferred h3, ?_⟩⟩
    refine leaves_marks hu ds _ (h5.keep fun D' _ _ hd ⟨e, he, hc⟩ => (World.putObj_heap_other (fun e' => h4 e he (by rw [hc, e']))).trans hd) fun w' hb => ?_
    exact h w' ((below_putObj (Below.refl _ _) _ h2).trans hb)
/-- A round said 'no more'. -/
def PresX (NN : Nat) (V : Vt) (r : Int) (Jx : List (Nat × List UInt8) → World → Prop) (B0 : Nat) (ds : List Deferred) (c : Code) (_ : List (Nat × List UInt8)) (W' : World) : Prop :=
  c = .ret ∧ Marks B0 ds W' ∧ ∃ l, l <+: presentL NN V r ∧ l ≠ [] ∧ Jx l W'
/-- What holds between two votes of a kind. -/
structure PresJ (J : List (Nat × List UInt8) → World → Prop) (W W1 : World) (y b4 c1 B : Nat) (NN : Nat) (V : Vt) (r : Int) (kk : Nat) (ds : List Deferred) (pre : List (Nat × List UInt8)) (W' : World) : Prop where
  j : J (doneL NN V r kk ++ selL V r kk pre) W'
  k3 : Blk W' W.heap.size 122 #[.func (.yield y) #[] #[]]
  k4 : Blk W' b4 3 #[.int .i64 (kk : Int)]
  ca : CastAt W' c1 (c1 + 1) (c1 + 1 + 1) B r kk
  marks : Marks W.heap.size ds W'
  size : W1.heap.size ≤ W'.heap.size
theorem PresJ.keep {J : List (Nat × List UInt8) → World → Prop} {W W1 : World} {y b4 c1 B : Nat} {NN : Nat} {V : Vt} {r : Int} {kk : Nat} {ds : List Deferred} {pre : List (Nat × List UInt8)} {A' B' : World} {Bd : Nat} (h : PresJ J W W1 y b4 c1 B NN V r kk ds pre A') (hb : Below Bd A' B') (hJ : AbB W.heap.size J) (h0 : W.heap.size < Bd) (h4 : b4 < Bd) (h3 : c1 + 1 + 1 < Bd) (hm : ∀ e ∈ ds, ∀ D, e.target = .collected D → D < Bd) : PresJ J W W1 y b4 c1 B NN V r kk ds pre B' :=
  ⟨hJ _ _ _ h.j (hb.mono (by omega)), h.k3.below hb h0, h.k4.below hb h4, h.ca.same (hb.block _ (by omega)) (hb.block _ (by omega)) (hb.block _ (by omega)), h.marks.keep fun D _ _ hd ⟨e, he, hc⟩ => (hb.block D (hm e he D hc)).trans hd, Nat.le_trans h.size hb.size⟩
set_option maxRecDepth 100000 in
set_option maxHeartbeats 8000000 in
theorem present_any (B : Nat) (r : Int) (W : World) :
    Calls Try.prog 57 #[.pointer (some ⟨B, 0, none⟩), .int .i64 r] W fun e w' => e = .returned (.func (.func 68) #[] #[.pointer (some ⟨W.heap.size, 0, none⟩), .pointer (some ⟨W.heap.size + 1, 0, none⟩)]) ∧ Blk w' W.heap.size 28 #[.pointer (some ⟨B, 0, none⟩)] ∧ Blk w' (W.heap.size + 1) 3 #[.int .i64 r] ∧ Below W.heap.size W w' := by
  go_enter Try.func57, Try.ntmps57
  go_wp2_with fail
  go_ret
  refine ⟨rfl, ?_, ?_, ((Below.refl _ W).alloc (Nat.le_refl _) _).alloc (by simp) _⟩
  · exact (Blk.newAt W W.heap.size rfl rfl).alloc _
  · exact Blk.newAt _ _ (by simp) rfl
set_option maxRecDepth 100000 in
set_option maxHeartbeats 8000000 in
theorem present_seq (d1 d2 B M n NN : Nat) (V : Vt) (r : Int) (own : Nat → Prop) (w : World) (hr : wfi r) (hN : NN ≤ 1000) (hown : ∀ b, own b → b < w.heap.size) :
    SeqD Try.prog 68 #[.pointer (some ⟨d1, 0, none⟩), .pointer (some ⟨d2, 0, none⟩)] encV own (PresInv d1 d2 B M n NN V r) (presentL NN V r) w := by
  intro y J Jx W hW hJ hJx hInv hY h0
  have HOWN : Hid (∀ b, own b → b < W.heap.size) := Lib.hid fun b hb => Nat.lt_of_lt_of_le (hown b hb) hW.size
  have HJ := Lib.hid hJ
  have HJX := Lib.hid hJx
  have HINV := Lib.hid hInv
  have HY := Lib.hid hY
  have HW := Lib.hid hr
  have HJ0 := Lib.hid h0
  clear hW hJ hJx hY h0 hInv hr hown
  refine callsIn_of_wp_marks Try.func68 rfl trivial ?_ rfl
  simp only [Try.ntmps68, List.size_toArray, List.length_cons, List.length_nil, Nat.reduceAdd, Nat.reduceSub, Array.replicate_succ, Array.replicate_zero, List.push_toArray, List.append_toArray, List.nil_append, List.cons_append]
  gi_wp2_with fail
  have k3 : Blk ((W.alloc (.cells #[.func (.yield y) #[] #[]] 122)).alloc (.cells #[.int .i64 0] 3)) W.heap.size 122 #[.func (.yield y) #[] #[]] := (Blk.newAt W _ rfl rfl).alloc _
  have k4 : Blk ((W.alloc (.cells #[.func (.yield y) #[] #[]] 122)).alloc (.cells #[.int .i64 0] 3)) (W.heap.size + 1) 3 #[.int .i64 ((0 : Nat) : Int)] := Blk.newAt _ _ (by simp) rfl
  have hbA : Below W.heap.size W ((W.alloc (.cells #[.func (.yield y) #[] #[]] 122)).alloc (.cells #[.int .i64 0] 3)) := ((Below.refl _ W).alloc (Nat.le_refl _) _).alloc (by simp) _
  have hJA := HJ.out _ _ _ HJ0.out hbA
  have hszA : ((W.alloc (.cells #[.func (.yield y) #[] #[]] 122)).alloc (.cells #[.int .i64 0] 3)).heap.size = W.heap.size + 2 := by simp
  generalize ((W.alloc (.cells #[.func (.yield y) #[] #[]] 122)).alloc (.cells #[.int .i64 0] 3)) = WA at k3 k4 hJA hszA ⊢
  clear hbA
  refine wpIn_loop_rounds 3 ?_
  rw [roundsIn_succ]
  have hszB : W.heap.size + 2 ≤ WA.heap.size := by omega
  clear hszA
  have hm0 : Marks W.heap.size [] WA := trivial
  have HI0 := HINV.out _ _ hJA
  have c4 : WA.cell? ⟨W.heap.size + 1, 0, none⟩ = some (.int .i64 0) := by rw [k4.cell]; rfl
  have e1 : WA.cell? ⟨d1, 0, none⟩ = some (.pointer (some ⟨B, 0, none⟩)) := by rw [HI0.k1.cell]; rfl
  have e2 : WA.cell? ⟨d2, 0, none⟩ = some (.int .i64 r) := by rw [HI0.k2.cell]; rfl
  gi_wp2_with (first
    | (refine ⟨trivial, rfl, ?_⟩; gi_at_call 53; refine (callsIn_wide.2 (cast_any B r 0 WA)).mono ?_; rintro e W01 ⟨rfl, hca, hb1⟩; clear c4 e1 e2 HI0))
  have I0 : PresJ J W W01 y (W.heap.size + 1) WA.heap.size B NN V r 0 [] [] W01 := ⟨by rw [show selL V r 0 [] = [] from by simp [selL], List.append_nil]; exact HJ.out _ _ _ hJA (hb1.mono (by omega)), k3.below hb1 k3.lt, k4.below hb1 k4.lt, hca, hm0.keep fun D _ hl hd _ => (hb1.block D hl).trans hd, Nat.le_refl _⟩
  have hs1 : WA.heap.size + 1 + 1 < W01.heap.size := hca.k3.lt
  have hlm : ∀ e ∈ ([] : List Deferred), ∀ D, e.target = .collected D → D < W01.heap.size := fun e he D hD => by
    obtain ⟨D', h1, _, h3⟩ := hm0.lt e he
    rw [h1] at hD
    injection hD with hD
    have := hb1.size
    omega
  have HOWN0 : Hid (∀ b, own b → b < W.heap.size) := HOWN
  have HML := Lib.hid hlm
  clear hb1 hca k3 k4 hJA hm0 hlm
  refine wpIn_rangeFunc_D (gf := 67) (lb := #[.pointer (some ⟨WA.heap.size, 0, none⟩), .pointer (some ⟨WA.heap.size + 1, 0, none⟩), .pointer (some ⟨WA.heap.size + 1 + 1, 0, none⟩)]) rfl (enters_of Try.func67 (by kernel_rfl) rfl)
    (cast_seq WA.heap.size (WA.heap.size + 1) (WA.heap.size + 1 + 1) B M n NN V r 0 own W01 HW.out (by unfold wfi; decide) hN) (fun _ => rfl)
    (PresJ J W W01 y (W.heap.size + 1) WA.heap.size B NN V r 0 [])
    (PresX NN V r Jx W.heap.size [])
    (fun s A' B' hs hb => hs.keep hb HJ.out (by omega) (by omega) (by omega) HML.out)
    (fun s W' hs => ⟨(HINV.out _ _ hs.j).count, hs.ca⟩)
    (fun c s A' B' hs hb => ⟨hs.1, hs.2.1.keep (fun D _ _ hd ⟨e, he, hc⟩ => (hb.block D (HML.out e he D hc)).trans hd), by
      obtain ⟨l, h1, h2, h3⟩ := hs.2.2
      exact ⟨l, h1, h2, HJX.out _ _ _ h3 (hb.mono (by omega))⟩⟩)
    I0
    (fun x a' W' => ∃ Bx, W01.heap.size ≤ Bx ∧ IdOk x.2 ∧ Blk W' Bx 24 (idC x.2) ∧ a' = { tmps := #[.func (.yield y) #[] #[], .pointer (some ⟨d1, 0, none⟩), .pointer (some ⟨d2, 0, none⟩), .pointer (some ⟨W.heap.size, 0, none⟩), .pointer (some ⟨W.heap.size + 1, 0, none⟩), .int .i64 (x.1 : Int), .pointer (some ⟨Bx, 0, none⟩), undef, .int .i64 0, .bool true, undef, undef, .pointer (some ⟨B, 0, none⟩), .int .i64 r, .int .i64 0, .func (.func 67) #[] #[.pointer (some ⟨WA.heap.size, 0, none⟩), .pointer (some ⟨WA.heap.size + 1, 0, none⟩), .pointer (some ⟨WA.heap.size + 1 + 1, 0, none⟩)], .int .i64 (x.1 : Int), idv x.2, undef, undef, undef, undef, undef, undef, undef, undef, undef, undef, undef, undef, undef, undef, undef, undef, undef, undef], defers := [] })
    (fun x a' W' l o o' _ h1 h2 h3 => by
      obtain ⟨Bx, q1, q4, q2, q3⟩ := h3
      exact ⟨Bx, q1, q4, q2.putObj o' h1 h2, q3⟩) ?assign0 ?body0 ?done0 ?stop0
  case assign0 =>
    intro l pre x W' K hlt hpre hi hK
    have hxin : x ∈ castL NN V r 0 := (hpre.subset) (by simp)
    have hxok : IdOk x.2 := ((HINV.out _ _ hi.j).count.ids _ _ _ _ (mem_castL.1 hxin).2).1
    have HI := Lib.hid hi
    have HXO := Lib.hid hxok
    have HSZ := Lib.hid hlt
    clear hi hxin hxok hlt I0
    simp only [encV]
    gi_wp2_with (first
      | (refine wpListIn_store_idv (fun _ => trivial) rfl _ _ rfl W'.heap.size x.2 rfl rfl HXO.out 24 _ (Blk.newAt _ _ rfl rfl) rfl ?_; intro W5 hS5 hz5 hb5 _ _))
    have hbel : Below W'.heap.size W' W5 := ((Below.refl _ W').alloc (Nat.le_refl _) _).trans hb5
    have hi := HI.out
    exact hK _ _ (keepsFrom_of_below hbel) (.of_below hbel) (hi.keep hbel HJ.out (by have := HSZ.out; omega) (by have := HSZ.out; omega) (by have := HSZ.out; omega) (fun e he D hD => by have := HML.out e he D hD; have := HSZ.out; omega)) ⟨W'.heap.size, by have := HSZ.out; omega, HXO.out, hS5, rfl⟩
  case body0 =>
    rintro l pre x a' W' hl hlt hpre hi ⟨Bx, hBx, hxo, hBk, rfl⟩
    have HI := Lib.hid hi
    have HXO := Lib.hid hxo
    have HBK := Lib.hid hBk
    have HLT := Lib.hid hlt
    have hinv := HINV.out _ _ hi.j
    have c4 : W'.cell? ⟨W.heap.size + 1, 0, none⟩ = some (.int .i64 0) := by rw [hi.k4.cell]; rfl
    have c3 : W'.cell? ⟨W.heap.size, 0, none⟩ = some (.func (.yield y) #[] #[]) := by rw [hi.k3.cell]; rfl
    have e1 : W'.cell? ⟨d1, 0, none⟩ = some (.pointer (some ⟨B, 0, none⟩)) := by rw [hinv.k1.cell]; rfl
    have e2 : W'.cell? ⟨d2, 0, none⟩ = some (.int .i64 r) := by rw [hinv.k2.cell]; rfl
    have HPP := Lib.hid (pres_pre NN V r 0 (by omega) hpre)
    have HCI := Lib.hid hinv.count
    have HXW : Hid (wfi (x.1 : Int)) := Lib.hid (WalkArith.wf_i64 (by
      have := (mem_castL.1 ((hpre.subset) (show x ∈ pre ++ [x] by simp))).1
      omega))
    have hszW : W01.heap.size ≤ W'.heap.size := hi.size
    clear hi hxo hBk hpre I0 hlt hinv
    have HSL : Hid (doneL NN V r 0 ++ selL V r 0 (pre ++ [x]) = doneL NN V r 0 ++ selL V r 0 pre ++ [x]) := Lib.hid (by simp [selL, doneL])
    have HPF : Hid ((doneL NN V r 0 ++ selL V r 0 pre ++ [x]) <+: presentL NN V r) := Lib.hid (by rw [← HSL.out]; exact HPP.out)
    gi_wp2_with (first
      | (guard_target = wpListIn _ _ _ _ _ (Oper.mk _ (.load 24 _) _ _ _ _ :: _) _ _; refine wpListIn_load_idvG (fun _ => trivial) (by rfl) _ rfl Bx x.2 rfl HXO.out 24 HBK.out ?_; obtain ⟨fn, tm, assign, bd, hy, hR1⟩ := HY.out _ x W' HPF.out HI.out.j; dsimp only [encV] at hy)
      | (refine ⟨trivial, ?_⟩)
      | (refine ⟨rfl, ?_⟩; refine hR1.mono ?_; clear hR1; rintro e W6 (⟨rfl, hJ2, hk2, hf2⟩ | ⟨rfl, hJx2, hf2⟩)))
    · refine ⟨keepsFrom_mono hf2 (by omega), hk2, ?_⟩
      have hi := HI.out
      refine ⟨?_, hi.k3.kept hk2 (fun h => by have := HOWN.out _ h; omega), hi.k4.kept hk2 (fun h => by have := HOWN.out _ h; omega), ⟨hi.ca.k1.kept hk2 (fun h => by have := HOWN.out _ h; omega), hi.ca.k2.kept hk2 (fun h => by have := HOWN.out _ h; omega), hi.ca.k3.kept hk2 (fun h => by have := HOWN.out _ h; omega)⟩, hi.marks.keep (fun D hB _ hd _ => hf2.same D _ hB hd rfl), Nat.le_trans hi.size hk2.size⟩
      rw [HSL.out]
      exact hJ2
    · exact ⟨keepsFrom_mono hf2 (by omega), rfl, HI.out.marks.keep (fun D hB _ hd _ => hf2.same D _ hB hd rfl), _, HPF.out, by simp, hJx2⟩
  case stop0 =>
    rintro D c pre W' hD hpre hne ⟨rfl, hmk, l, hl1, hl2, hl3⟩ hK
    have HMK : Hid (Marks W.heap.size ({ target := .collected D, args := #[] } :: []) W') := Lib.hid ⟨D, rfl, by omega, hK, fun e he hc => by have := HML.out e he D hc; omega, hmk⟩
    have HL := Lib.hid (And.intro hl1 (And.intro hl2 hl3))
    clear hmk hl1 hl2 hl3 hK I0
    gi_wp2
    exact leaves_marks (by simp) _ _ HMK.out fun w' hb => ⟨_, results_none rfl _ _ _, ⟨_, rfl⟩, .inr ⟨l, HL.out.1, HL.out.2.1, HJX.out _ _ _ HL.out.2.2 hb⟩⟩
  case done0 =>
    rintro D Wd0 hD0 hi hK
    have hm0n : Marks W.heap.size ({ target := .collected D, args := #[] } :: []) Wd0 := ⟨D, rfl, by omega, hK, fun e he hc => by have := HML.out e he D hc; omega, hi.marks⟩
    have hJn : J (doneL NN V r (0 + 1)) Wd0 := by rw [doneL_next NN V r 0 (by omega)]; exact hi.j
    have c4 : Wd0.cell? ⟨W.heap.size + 1, 0, none⟩ = some (.int .i64 0) := by rw [hi.k4.cell]; rfl
    have k3n := hi.k3
    have hszn : W01.heap.size ≤ Wd0.heap.size := hi.size
    clear hi hK I0 HML
    gi_wp2_with fail
    rw [roundsIn_succ]
    have hbN : Below Wd0.heap.size Wd0 (Wd0.alloc (.cells #[.int .i64 1] 3)) := (Below.refl _ _).alloc (Nat.le_refl _) _
    have k4N : Blk (Wd0.alloc (.cells #[.int .i64 1] 3)) Wd0.heap.size 3 #[.int .i64 ((1 : Nat) : Int)] := Blk.newAt _ _ rfl rfl
    have hszB0 : Wd0.heap.size < (Wd0.alloc (.cells #[.int .i64 1] 3)).heap.size := by simp
    have k3N := k3n.below hbN k3n.lt
    have hJN := HJ.out _ _ _ hJn (hbN.mono (by omega))
    have hmN := hm0n.keep (w' := Wd0.alloc (.cells #[.int .i64 1] 3)) (fun D' _ hl hd _ => (hbN.block D' hl).trans hd)
    clear hm0n hJn c4 k3n
    generalize (Wd0.alloc (.cells #[.int .i64 1] 3)) = WB0 at hbN k4N hszB0 k3N hJN hmN ⊢
    clear hbN
    have HI1 := HINV.out _ _ hJN
    have c4 : WB0.cell? ⟨Wd0.heap.size, 0, none⟩ = some (.int .i64 1) := by rw [k4N.cell]; rfl
    have e1 : WB0.cell? ⟨d1, 0, none⟩ = some (.pointer (some ⟨B, 0, none⟩)) := by rw [HI1.k1.cell]; rfl
    have e2 : WB0.cell? ⟨d2, 0, none⟩ = some (.int .i64 r) := by rw [HI1.k2.cell]; rfl
    gi_wp2_with (first
      | (refine ⟨trivial, rfl, ?_⟩; gi_at_call 53; refine (callsIn_wide.2 (cast_any B r 1 WB0)).mono ?_; rintro e W11 ⟨rfl, hca, hb1⟩; clear c4 e1 e2 HI1))
    have I0 : PresJ J W W11 y (Wd0.heap.size) WB0.heap.size B NN V r 1 [{ target := .collected D, args := #[] }] [] W11 := ⟨by rw [show selL V r 1 [] = [] from by simp [selL], List.append_nil]; exact HJ.out _ _ _ hJN (hb1.mono (by omega)), k3N.below hb1 k3N.lt, k4N.below hb1 k4N.lt, hca, hmN.keep fun D _ hl hd _ => (hb1.block D hl).trans hd, Nat.le_refl _⟩
    have hs1 : WB0.heap.size + 1 + 1 < W11.heap.size := hca.k3.lt
    have hlm : ∀ e ∈ ([{ target := .collected D, args := #[] }] : List Deferred), ∀ D, e.target = .collected D → D < W11.heap.size := fun e he D hD => by
      obtain ⟨D', h1, _, h3⟩ := hmN.lt e he
      rw [h1] at hD
      injection hD with hD
      have := hb1.size
      omega
    have HOWN1 : Hid (∀ b, own b → b < W.heap.size) := HOWN
    have HML := Lib.hid hlm
    clear hb1 hca k3N k4N hJN hmN hlm
    refine wpIn_rangeFunc_D (gf := 67) (lb := #[.pointer (some ⟨WB0.heap.size, 0, none⟩), .pointer (some ⟨WB0.heap.size + 1, 0, none⟩), .pointer (some ⟨WB0.heap.size + 1 + 1, 0, none⟩)]) rfl (enters_of Try.func67 (by kernel_rfl) rfl)
      (cast_seq WB0.heap.size (WB0.heap.size + 1) (WB0.heap.size + 1 + 1) B M n NN V r 1 own W11 HW.out (by unfold wfi; decide) hN) (fun _ => rfl)
      (PresJ J W W11 y (Wd0.heap.size) WB0.heap.size B NN V r 1 [{ target := .collected D, args := #[] }])
      (PresX NN V r Jx W.heap.size [{ target := .collected D, args := #[] }])
      (fun s A' B' hs hb => hs.keep hb HJ.out (by omega) (by omega) (by omega) HML.out)
      (fun s W' hs => ⟨(HINV.out _ _ hs.j).count, hs.ca⟩)
      (fun c s A' B' hs hb => ⟨hs.1, hs.2.1.keep (fun D _ _ hd ⟨e, he, hc⟩ => (hb.block D (HML.out e he D hc)).trans hd), by
        obtain ⟨l, h1, h2, h3⟩ := hs.2.2
        exact ⟨l, h1, h2, HJX.out _ _ _ h3 (hb.mono (by omega))⟩⟩)
      I0
      (fun x a' W' => ∃ Bx, W11.heap.size ≤ Bx ∧ IdOk x.2 ∧ Blk W' Bx 24 (idC x.2) ∧ a' = { tmps := #[.func (.yield y) #[] #[], .pointer (some ⟨d1, 0, none⟩), .pointer (some ⟨d2, 0, none⟩), .pointer (some ⟨W.heap.size, 0, none⟩), .pointer (some ⟨Wd0.heap.size, 0, none⟩), .int .i64 (x.1 : Int), .pointer (some ⟨Bx, 0, none⟩), undef, .int .i64 1, .bool true, .int .i64 0, .int .i64 1, .pointer (some ⟨B, 0, none⟩), .int .i64 r, .int .i64 1, .func (.func 67) #[] #[.pointer (some ⟨WB0.heap.size, 0, none⟩), .pointer (some ⟨WB0.heap.size + 1, 0, none⟩), .pointer (some ⟨WB0.heap.size + 1 + 1, 0, none⟩)], .int .i64 (x.1 : Int), idv x.2, undef, undef, undef, undef, undef, undef, undef, undef, undef, undef, undef, undef, undef, undef, undef, undef, undef, .int .i64 0], defers := [] })
      (fun x a' W' l o o' _ h1 h2 h3 => by
        obtain ⟨Bx, q1, q4, q2, q3⟩ := h3
        exact ⟨Bx, q1, q4, q2.putObj o' h1 h2, q3⟩) ?assign1 ?body1 ?done1 ?stop1
    case assign1 =>
      intro l pre x W' K hlt hpre hi hK
      have hxin : x ∈ castL NN V r 1 := (hpre.subset) (by simp)
      have hxok : IdOk x.2 := ((HINV.out _ _ hi.j).count.ids _ _ _ _ (mem_castL.1 hxin).2).1
      have HI := Lib.hid hi
      have HXO := Lib.hid hxok
      have HSZ := Lib.hid hlt
      clear hi hxin hxok hlt I0
      simp only [encV]
      gi_wp2_with (first
        | (refine wpListIn_store_idv (fun _ => trivial) rfl _ _ rfl W'.heap.size x.2 rfl rfl HXO.out 24 _ (Blk.newAt _ _ rfl rfl) rfl ?_; intro W5 hS5 hz5 hb5 _ _))
      have hbel : Below W'.heap.size W' W5 := ((Below.refl _ W').alloc (Nat.le_refl _) _).trans hb5
      have hi := HI.out
      exact hK _ _ (keepsFrom_of_below hbel) (.of_below hbel) (hi.keep hbel HJ.out (by have := HSZ.out; omega) (by have := HSZ.out; omega) (by have := HSZ.out; omega) (fun e he D hD => by have := HML.out e he D hD; have := HSZ.out; omega)) ⟨W'.heap.size, by have := HSZ.out; omega, HXO.out, hS5, rfl⟩
    case body1 =>
      rintro l pre x a' W' hl hlt hpre hi ⟨Bx, hBx, hxo, hBk, rfl⟩
      have HI := Lib.hid hi
      have HXO := Lib.hid hxo
      have HBK := Lib.hid hBk
      have HLT := Lib.hid hlt
      have hinv := HINV.out _ _ hi.j
      have c4 : W'.cell? ⟨Wd0.heap.size, 0, none⟩ = some (.int .i64 1) := by rw [hi.k4.cell]; rfl
      have c3 : W'.cell? ⟨W.heap.size, 0, none⟩ = some (.func (.yield y) #[] #[]) := by rw [hi.k3.cell]; rfl
      have e1 : W'.cell? ⟨d1, 0, none⟩ = some (.pointer (some ⟨B, 0, none⟩)) := by rw [hinv.k1.cell]; rfl
      have e2 : W'.cell? ⟨d2, 0, none⟩ = some (.int .i64 r) := by rw [hinv.k2.cell]; rfl
      have HPP := Lib.hid (pres_pre NN V r 1 (by omega) hpre)
      have HCI := Lib.hid hinv.count
      have HXW : Hid (wfi (x.1 : Int)) := Lib.hid (WalkArith.wf_i64 (by
        have := (mem_castL.1 ((hpre.subset) (show x ∈ pre ++ [x] by simp))).1
        omega))
      have hszW : W11.heap.size ≤ W'.heap.size := hi.size
      clear hi hxo hBk hpre I0 hlt hinv
      cases hv : V r 0 (x.1 : Int) with
      | none =>
        have HHAS := Lib.hid (has_any HCI.out r 0 (x.1 : Int) HW.out (by unfold wfi; decide) HXW.out)
        rw [hv] at HHAS
        have HSL : Hid (doneL NN V r 1 ++ selL V r 1 (pre ++ [x]) = doneL NN V r 1 ++ selL V r 1 pre ++ [x]) := Lib.hid (by rw [selL_append, List.append_assoc]; simp [selL, hv])
        have HPF : Hid ((doneL NN V r 1 ++ selL V r 1 pre ++ [x]) <+: presentL NN V r) := Lib.hid (by rw [← HSL.out]; exact HPP.out)
        clear hv
        gi_wp2_with (first
          | (refine ⟨trivial, rfl, ?_⟩; gi_at_call 52; refine (CallsIn.inRound l (callsIn_wide.2 HHAS.out)).mono ?_; rintro e W5 ⟨rfl, hb5⟩; have HB5 := Lib.hid hb5; replace c3 := (hb5.cell (p := ⟨W.heap.size, 0, none⟩) HI.out.k3.lt).trans c3; have hj5 := HJ.out _ _ _ HI.out.j (hb5.mono (by omega)); obtain ⟨fn, tm, assign, bd, hy, hR1⟩ := HY.out _ x W5 HPF.out hj5; dsimp only [encV] at hy; clear hb5 HHAS hj5)
          | (guard_target = wpListIn _ _ _ _ _ (Oper.mk _ (.load 24 _) _ _ _ _ :: _) _ _; refine wpListIn_load_idvG (fun _ => trivial) (by rfl) _ rfl Bx x.2 rfl HXO.out 24 (HBK.out.below HB5.out HBK.out.lt) ?_)
          | (refine ⟨trivial, ?_⟩)
          | (refine ⟨rfl, ?_⟩; refine hR1.mono ?_; clear hR1; rintro e W6 (⟨rfl, hJ2, hk2, hf2⟩ | ⟨rfl, hJx2, hf2⟩)))
        · refine ⟨keepsFrom_trans (keepsFrom_of_below HB5.out) (keepsFrom_mono hf2 (by omega)), (Keep.of_below HB5.out).trans hk2, ?_⟩
          have hi := HI.out.keep HB5.out HJ.out (by omega) (by omega) (by omega) (fun e he D hD => by have := HML.out e he D hD; omega)
          refine ⟨?_, hi.k3.kept hk2 (fun h => by have := HOWN.out _ h; omega), hi.k4.kept hk2 (fun h => by have := HOWN.out _ h; omega), ⟨hi.ca.k1.kept hk2 (fun h => by have := HOWN.out _ h; omega), hi.ca.k2.kept hk2 (fun h => by have := HOWN.out _ h; omega), hi.ca.k3.kept hk2 (fun h => by have := HOWN.out _ h; omega)⟩, hi.marks.keep (fun D hB _ hd _ => hf2.same D _ hB hd rfl), Nat.le_trans hi.size hk2.size⟩
          rw [HSL.out]
          exact hJ2
        · have hi := HI.out.keep HB5.out HJ.out (by omega) (by omega) (by omega) (fun e he D hD => by have := HML.out e he D hD; omega)
          exact ⟨keepsFrom_trans (keepsFrom_of_below HB5.out) (keepsFrom_mono hf2 (by omega)), rfl, hi.marks.keep (fun D hB _ hd _ => hf2.same D _ hB hd rfl), _, HPF.out, by simp, hJx2⟩
      | some z =>
        have HHAS := Lib.hid (has_any HCI.out r 0 (x.1 : Int) HW.out (by unfold wfi; decide) HXW.out)
        rw [hv] at HHAS
        have HSL : Hid (doneL NN V r 1 ++ selL V r 1 (pre ++ [x]) = doneL NN V r 1 ++ selL V r 1 pre) := Lib.hid (by rw [selL_append]; simp [selL, hv])
        clear hv
        gi_wp2_with (first
          | (refine ⟨trivial, rfl, ?_⟩; gi_at_call 52; refine (CallsIn.inRound l (callsIn_wide.2 HHAS.out)).mono ?_; rintro e W5 ⟨rfl, hb5⟩; have HB5 := Lib.hid hb5; clear hb5 HHAS)
          | (refine ⟨trivial, ?_⟩))
        refine ⟨(fun f h => by cases h), ?_⟩
        gi_wp2
        refine ⟨keepsFrom_of_below HB5.out, Keep.of_below HB5.out, ?_⟩
        have hi := HI.out.keep HB5.out HJ.out (by omega) (by omega) (by omega) (fun e he D hD => by have := HML.out e he D hD; omega)
        refine ⟨?_, hi.k3, hi.k4, hi.ca, hi.marks, hi.size⟩
        rw [HSL.out]
        exact hi.j
    case stop1 =>
      rintro D1 c pre W' hD hpre hne ⟨rfl, hmk, l, hl1, hl2, hl3⟩ hK
      have HMK : Hid (Marks W.heap.size ({ target := .collected D1, args := #[] } :: [{ target := .collected D, args := #[] }]) W') := Lib.hid ⟨D1, rfl, by omega, hK, fun e he hc => by have := HML.out e he D1 hc; omega, hmk⟩
      have HL := Lib.hid (And.intro hl1 (And.intro hl2 hl3))
      clear hmk hl1 hl2 hl3 hK I0
      gi_wp2
      exact leaves_marks (by simp) _ _ HMK.out fun w' hb => ⟨_, results_none rfl _ _ _, ⟨_, rfl⟩, .inr ⟨l, HL.out.1, HL.out.2.1, HJX.out _ _ _ HL.out.2.2 hb⟩⟩
    case done1 =>
      rintro D1 Wd1 hD1 hi hK
      have hm1n : Marks W.heap.size ({ target := .collected D1, args := #[] } :: [{ target := .collected D, args := #[] }]) Wd1 := ⟨D1, rfl, by omega, hK, fun e he hc => by have := HML.out e he D1 hc; omega, hi.marks⟩
      have hJn : J (doneL NN V r (1 + 1)) Wd1 := by rw [doneL_next NN V r 1 (by omega)]; exact hi.j
      have c4 : Wd1.cell? ⟨Wd0.heap.size, 0, none⟩ = some (.int .i64 1) := by rw [hi.k4.cell]; rfl
      have k3n := hi.k3
      have hszn : W11.heap.size ≤ Wd1.heap.size := hi.size
      clear hi hK I0 HML
      gi_wp2_with fail
      rw [roundsIn_succ]
      have hbN : Below Wd1.heap.size Wd1 (Wd1.alloc (.cells #[.int .i64 2] 3)) := (Below.refl _ _).alloc (Nat.le_refl _) _
      have k4N : Blk (Wd1.alloc (.cells #[.int .i64 2] 3)) Wd1.heap.size 3 #[.int .i64 ((2 : Nat) : Int)] := Blk.newAt _ _ rfl rfl
      have hszB1 : Wd1.heap.size < (Wd1.alloc (.cells #[.int .i64 2] 3)).heap.size := by simp
      have k3N := k3n.below hbN k3n.lt
      have hJN := HJ.out _ _ _ hJn (hbN.mono (by omega))
      have hmN := hm1n.keep (w' := Wd1.alloc (.cells #[.int .i64 2] 3)) (fun D' _ hl hd _ => (hbN.block D' hl).trans hd)
      clear hm1n hJn c4 k3n
      generalize (Wd1.alloc (.cells #[.int .i64 2] 3)) = WB1 at hbN k4N hszB1 k3N hJN hmN ⊢
      clear hbN
      have c4 : WB1.cell? ⟨Wd1.heap.size, 0, none⟩ = some (.int .i64 2) := by rw [k4N.cell]; rfl
      gi_wp2_with fail
      exact leaves_marks (by simp) _ _ hmN fun w' hb => ⟨_, results_none rfl _ _ _, ⟨_, rfl⟩, .inl (HJ.out _ _ _ hJN hb)⟩
end Go.Proofs.Ytbgojlcciealiaa
