/-
  A range over a function whose body writes memory of its own that may move (a slice that is appended to): what the body may write is a set of blocks that goes with the caller's invariant; the iterator's own blocks lie outside of it. The iterator's contract ('SeqM': the elements are known, in order, their values by a relation) and the law for the caller. No condition.
-/
import Derived.Test.YtkbdkeclbokhdaaDoorQ1
namespace Go.Proofs.YtkbdkeclbokhdaaDoor
open Go Go.RowKit

/-- Every block below B, and every block of o, lies as it lay. -/
structure Stay (B : Nat) (o : Nat → Prop) (W W' : World) : Prop where
  os : W'.os = W.os
  tape : W'.tape = W.tape
  output : W'.output = W.output
  size : W.heap.size ≤ W'.heap.size
  block : ∀ b, (b < B ∨ o b) → b < W.heap.size → W'.heap[b]? = W.heap[b]?
theorem Stay.of_below {B : Nat} {o : Nat → Prop} {W W' : World} (h : Below W.heap.size W W') : Stay B o W W' := ⟨h.os, h.tape, h.output, h.size, fun b _ hl => h.block b hl⟩
theorem Stay.mono {B B' : Nat} {o : Nat → Prop} {W W' : World} (h : Stay B o W W') (hB : B' ≤ B) : Stay B' o W W' := ⟨h.os, h.tape, h.output, h.size, fun b hb hl => h.block b (hb.imp (fun h => Nat.lt_of_lt_of_le h hB) id) hl⟩
theorem Stay.setRow {B : Nat} {o : Nat → Prop} (W : World) (g : Nat) (cs : Array Value) (hB : B ≤ g) (hp : ¬ o g) : Stay B o W (W.setRow g cs) :=
  ⟨(below_setRow (Below.refl 0 W) (Nat.zero_le g) cs).os, (below_setRow (Below.refl 0 W) (Nat.zero_le g) cs).tape, (below_setRow (Below.refl 0 W) (Nat.zero_le g) cs).output, by rw [size_setRow]; exact Nat.le_refl _, fun b hb _ => setRow_other W g b cs (by rintro rfl; exact hb.elim (fun h => by omega) hp)⟩
theorem Stay.putObj {B l : Nat} {o : Nat → Prop} (W : World) (x : Obj) (hB : B ≤ l) (hp : ¬ o l) : Stay B o W (W.putObj l x) :=
  ⟨rfl, rfl, rfl, by simp [World.putObj], fun b hb _ => World.putObj_heap_other (by rintro rfl; exact hb.elim (fun h => by omega) hp)⟩
/-- What abides every change elsewhere; what may be written lies in blocks of cells that are there. -/
structure AbO {β : Type} (B : Nat) (J : β → (Nat → Prop) → World → Prop) : Prop where
  stay : ∀ s o W W', J s o W → Stay B o W W' → J s o W'
  there : ∀ s o W, J s o W → ∀ b, o b → ∃ x, W.heap[b]? = some x ∧ x.isCells = true
theorem AbO.lt {β : Type} {B : Nat} {J : β → (Nat → Prop) → World → Prop} (h : AbO B J) {s : β} {o : Nat → Prop} {W : World} (hs : J s o W) {b : Nat} (hb : o b) : b < W.heap.size := by
  obtain ⟨x, hx, _⟩ := h.there s o W hs b hb
  exact (Array.getElem?_eq_some_iff.1 hx).1
/-- What may be written goes on: nothing of what others made meanwhile. -/
def Goes (o o' : Nat → Prop) (W : World) : Prop := ∀ b, o' b → o b ∨ W.heap.size ≤ b

/-- THE ITERATOR's CONTRACT: the elements are xs, in order; a round may say 'no more'. -/
def SeqM {α : Type} (P : Program) (g : Nat) (lb : Array Value) (Enc : α → (Nat → Prop) → World → Array Value → Prop) (D : Nat) (xs : List α) (w : World) : Prop :=
  ∀ (l : Nat) (J Jx : List α → (Nat → Prop) → World → Prop) (o : Nat → Prop) (W : World), Below w.heap.size w W → AbO W.heap.size J → AbO W.heap.size Jx →
    (∀ pre x vs o W1, (pre ++ [x]) <+: xs → J pre o W1 → W.heap.size ≤ W1.heap.size → Enc x o W1 vs → YieldAt Fence.wide 0 P l vs W1 fun e W' =>
      (e = .returned (.bool true) ∧ (∃ o', J (pre ++ [x]) o' W' ∧ Goes o o' W1) ∧ Keep o W1 W') ∨ (e = .returned (.bool false) ∧ ∃ o', Jx (pre ++ [x]) o' W')) →
    J [] o W → (∀ b, o b → D ≤ b) →
    CallsIn Fence.wide 0 P g (#[.func (.yield l) #[] #[]] ++ lb) W fun e W' => (∃ v, e = .returned v) ∧ ((∃ o', J xs o' W') ∨ (∃ pre o', pre <+: xs ∧ pre ≠ [] ∧ Jx pre o' W'))

def ownPostM {α : Type} (B : Nat) (o : Nat → Prop) (I : List α → (Nat → Prop) → World → Prop) (Ix : Code → List α → (Nat → Prop) → World → Prop) (xs : List α) (W : World) : Exit → Act → World → Prop
  | .normal, _, W' => KeepsFrom B W W' ∧ Keep o W W' ∧ ∃ o', I xs o' W' ∧ Goes o o' W
  | .ret, _, W' => KeepsFrom B W W' ∧ ∃ o', Ix .ret xs o' W'
  | .exit id, _, W' => KeepsFrom B W W' ∧ ∃ o', Ix (.exit id) xs o' W'
  | .goto t, _, W' => KeepsFrom B W W' ∧ ∃ o', Ix (.goto t) xs o' W'
  | .panic _, _, _ => False
  | .outgrown, _, _ => False

variable {P : Program}
theorem wpIn_rangeFunc_M {α : Type} {g : Operand} {ps : Array Tmp} {assign body : Code} {Q : Exit → Act → World → Prop} {a : Act} {w : World}
    {gf : Nat} {lb : Array Value} (hg : a.eval g = .func (.func gf) #[] lb) (eg : ∀ args w, (callFunc gf args).run P w = .ok (.enter gf args) w)
    {Enc : α → (Nat → Prop) → World → Array Value → Prop} {xs : List α} {D0 : Nat} (hseq : SeqM P gf lb Enc D0 xs w) (hps : ∀ x o W vs, Enc x o W vs → vs.size = ps.size)
    (I : List α → (Nat → Prop) → World → Prop) (Ix : Code → List α → (Nat → Prop) → World → Prop) (hI : AbO w.heap.size I) (hIx : ∀ c, AbO w.heap.size (Ix c)) (o : Nat → Prop) (h0 : I [] o w) (ho : ∀ b, o b → D0 ≤ b) (Ax : α → (Nat → Prop) → Act → World → Prop)
    (hAx : ∀ x o a' W l b b', w.heap.size ≤ l → W.heap[l]? = some b → b.isCells = false → Ax x o a' W → Ax x o a' (W.putObj l b'))
    (hassign : ∀ (l : Nat) (pre : List α) (x : α) (vs : Array Value) (o : Nat → Prop) (W : World) (K : Act → World → Prop), w.heap.size < W.heap.size → (pre ++ [x]) <+: xs → I pre o W → Enc x o W vs → (∀ a' W', KeepsFrom w.heap.size W W' → Below W.heap.size W W' → Ax x o a' W' → K a' W') →
      assign.wpIn (Fence.wide.inRound l) 0 P (Exit.then K (fun _ _ _ => False)) { tmps := (ps.zip vs).foldl (fun t (p, v) => t.setIfInBounds p v) a.tmps, defers := [] } W)
    (hbody : ∀ (l : Nat) (pre : List α) (x : α) (o : Nat → Prop) (a' : Act) (W : World), w.heap.size ≤ l → l < W.heap.size → (pre ++ [x]) <+: xs → I pre o W → Ax x o a' W → body.wpIn (Fence.wide.inRound l) 0 P (ownPostM w.heap.size o I Ix (pre ++ [x]) W) a' W)
    (hdone : ∀ (D : Nat) (o : Nat → Prop) (W : World), w.heap.size ≤ D → I xs o W → W.heap[D]? = some (.deferred (some [])) → Q .normal { a with defers := { target := .collected D, args := #[] } :: a.defers } W)
    (hstop : ∀ (D : Nat) (c : Code) (pre : List α) (o : Nat → Prop) (W : World), w.heap.size ≤ D → pre <+: xs → pre ≠ [] → Ix c pre o W → W.heap[D]? = some (.deferred (some [])) → c.wpIn Fence.wide 0 P Q { a with defers := { target := .collected D, args := #[] } :: a.defers } W) :
    (Code.rangeFunc g ps assign body).wpIn Fence.wide 0 P Q a w := by
  refine wpIn_rangeFunc ?_
  intro fn hfn
  obtain ⟨rec, hrec⟩ : ∃ rec : LoopState → Option Code → Loop, rec = fun st pe => { state := st, pending := pe, fn, tmps := a.tmps, params := ps, assign, body, defers := w.heap.size } := ⟨_, rfl⟩
  obtain ⟨W1, hW1⟩ : ∃ W1, (w.alloc (.deferred (some []))).alloc (.loop (rec .ready none)) = W1 := ⟨_, rfl⟩
  have hL1 : W1.heap[w.heap.size + 1]? = some (.loop (rec .ready none)) := by
    rw [← hW1]; have := World.alloc_heap_new (w.alloc (.deferred (some []))) (.loop (rec .ready none)); rwa [World.size_alloc] at this
  have hK1 : W1.heap[w.heap.size]? = some (.deferred (some [])) := by
    rw [← hW1]; exact (Below.heap_alloc _ _ _ (by simp)).trans (World.alloc_heap_new w _)
  have hb1 : Below w.heap.size w W1 := by
    rw [← hW1]; exact ((Below.refl _ w).alloc (Nat.le_refl _) _).alloc (by simp) _
  have hs1 : W1.heap.size = w.heap.size + 2 := by rw [← hW1]; simp
  have hnot : ∀ {s : List α} {o : Nat → Prop} {W : World} {J : List α → (Nat → Prop) → World → Prop}, AbO w.heap.size J → J s o W → ∀ {l : Nat} {x : Obj}, W.heap[l]? = some x → x.isCells = false → ¬ o l := by
    intro s o W J hJ hs l x hl hx ho
    obtain ⟨y, hy, hc⟩ := hJ.there _ _ _ hs _ ho
    rw [hl] at hy; cases hy; rw [hx] at hc; cases hc
  refine ⟨w.heap.size + 1, [{ target := .collected w.heap.size, args := #[] }], W1, { target := .fn (.func gf) lb, args := #[.func (.yield (w.heap.size + 1)) #[] #[]] }, W1, gf,
    #[.func (.yield (w.heap.size + 1)) #[] #[]] ++ lb, W1, ?_, ?_, fun _ _ => trivial, ?_, (fun h => by cases h), ?_⟩
  · rw [← hW1, hrec]; exact run_enterLoop_outer _ _ _ _ _
  · simp only [resolve, hg]
    simp [go_sem]
  · simp [invoke, go_sem, eg]
  · refine (hseq (w.heap.size + 1)
      (fun pre o W => I pre o W ∧ W.heap[w.heap.size + 1]? = some (.loop (rec .ready none)) ∧ W.heap[w.heap.size]? = some (.deferred (some [])))
      (fun pre o W => ∃ c, Ix c pre o W ∧ W.heap[w.heap.size + 1]? = some (.loop (rec .done (some c))) ∧ W.heap[w.heap.size]? = some (.deferred (some [])))
      o W1 hb1
      ⟨fun s o A B hs hb => ⟨hI.stay s o A B hs.1 (hb.mono (by omega)), (hb.block _ (.inl (by omega)) (Array.getElem?_eq_some_iff.1 hs.2.1).1).trans hs.2.1, (hb.block _ (.inl (by omega)) (Array.getElem?_eq_some_iff.1 hs.2.2).1).trans hs.2.2⟩, fun s o W hs => hI.there s o W hs.1⟩
      ⟨fun s o A B hs hb => by
        obtain ⟨c, hc, hl, hk⟩ := hs
        exact ⟨c, (hIx c).stay s o A B hc (hb.mono (by omega)), (hb.block _ (.inl (by omega)) (Array.getElem?_eq_some_iff.1 hl).1).trans hl, (hb.block _ (.inl (by omega)) (Array.getElem?_eq_some_iff.1 hk).1).trans hk⟩, fun s o W hs => by
        obtain ⟨c, hc, _⟩ := hs
        exact (hIx c).there s o W hc⟩
      ?_ ⟨hI.stay _ _ _ _ h0 (.of_below hb1), hL1, hK1⟩ ho).mono ?_
    · -- one round
      rintro pre x vs o W hpre ⟨hi, hl, hk⟩ hsz henc
      have hlt : w.heap.size + 1 < W.heap.size := (Array.getElem?_eq_some_iff.1 hl).1
      have hy := run_yield (P := P) (args := vs) hl (by rw [hrec]; exact hps x o W vs henc)
      rw [hrec] at hy
      refine ⟨fn, _, assign, body, hy, roundIn_of_wpIn hfn (hassign _ pre x vs o W _ (by omega) hpre hi henc ?_)⟩
      clear hy
      intro a' Wa hkfa hba hax
      have hkpa : Keep o W Wa := .of_below hba
      have hia : I pre o Wa := hI.stay _ _ _ _ hi (.of_below hba)
      replace hl := hkfa.same _ _ (by omega) hl rfl
      replace hk := hkfa.same _ _ (Nat.le_refl _) hk rfl
      replace hlt : w.heap.size + 1 < Wa.heap.size := (Array.getElem?_eq_some_iff.1 hl).1
      refine ⟨_, run_beginRound hl (by rw [hrec]), ?_⟩
      have hl2 : (Wa.putObj (w.heap.size + 1) (.loop { rec .ready none with state := .busy })).heap[w.heap.size + 1]? = some (.loop { rec .ready none with state := .busy }) := World.putObj_heap_same hlt
      have hk2 : (Wa.putObj (w.heap.size + 1) (.loop { rec .ready none with state := .busy })).heap[w.heap.size]? = some (.deferred (some [])) := (World.putObj_heap_other (by omega)).trans hk
      have hw2 : Keep o Wa (Wa.putObj (w.heap.size + 1) (.loop { rec .ready none with state := .busy })) := .putObj _ _ _ _ hl rfl
      have hsa : W.heap.size ≤ (Wa.putObj (w.heap.size + 1) (.loop { rec .ready none with state := .busy })).heap.size := Nat.le_trans hba.size (by simp [World.putObj])
      refine wpIn_mono (hbody _ pre x o a' _ (by omega) (Array.getElem?_eq_some_iff.1 hl2).1 hpre (hI.stay _ _ _ _ hia (.putObj _ _ (by omega) (hnot hI hia hl rfl))) (hAx x o a' _ _ _ _ (by omega) hl rfl hax)) ?_
      have fin : ∀ (jump : Option Code) (W3 : World), KeepsFrom w.heap.size (Wa.putObj (w.heap.size + 1) (.loop { rec .ready none with state := .busy })) W3 →
          (Instr.endRound (w.heap.size + 1) jump).run P W3 = .ok (.bool jump.isNone) (W3.putObj (w.heap.size + 1) (.loop (rec (if jump.isNone then .ready else .done) jump))) ∧
          W3.heap[w.heap.size + 1]? = some (.loop { rec .ready none with state := .busy }) ∧
          (W3.putObj (w.heap.size + 1) (.loop (rec (if jump.isNone then .ready else .done) jump))).heap[w.heap.size + 1]? = some (.loop (rec (if jump.isNone then .ready else .done) jump)) ∧
          (W3.putObj (w.heap.size + 1) (.loop (rec (if jump.isNone then .ready else .done) jump))).heap[w.heap.size]? = some (.deferred (some [])) := fun jump W3 hk3 => by
        have hl3 := hk3.same _ _ (by omega) hl2 rfl
        have := run_endRound (P := P) jump hl3
        rw [hrec] at this ⊢
        exact ⟨this, by rw [hrec] at hl3; exact hl3, World.putObj_heap_same (Array.getElem?_eq_some_iff.1 hl3).1, (World.putObj_heap_other (by omega)).trans (hk3.same _ _ (Nat.le_refl _) hk2 rfl)⟩
      rintro e a3 W3 hp
      cases e with
      | normal =>
        obtain ⟨hk3, hkp3, o', hi3, hgo⟩ := hp
        obtain ⟨hr, hl3, hl4, hk4⟩ := fin none W3 hk3
        exact ⟨_, _, hr, .inl ⟨rfl, ⟨o', ⟨hI.stay _ _ _ _ hi3 (.putObj _ _ (by omega) (hnot hI hi3 hl3 rfl)), hl4, hk4⟩, fun b hb => (hgo b hb).imp id fun h => Nat.le_trans hsa h⟩, hkpa.trans ((hw2.trans hkp3).trans (.putObj _ _ _ _ hl3 rfl))⟩⟩
      | ret =>
        obtain ⟨hk3, o', hi3⟩ := hp
        obtain ⟨hr, hl3, hl4, hk4⟩ := fin (some .ret) W3 hk3
        exact ⟨_, _, hr, .inr ⟨rfl, o', .ret, (hIx _).stay _ _ _ _ hi3 (.putObj _ _ (by omega) (hnot (hIx _) hi3 hl3 rfl)), hl4, hk4⟩⟩
      | exit id =>
        obtain ⟨hk3, o', hi3⟩ := hp
        obtain ⟨hr, hl3, hl4, hk4⟩ := fin (some (.exit id)) W3 hk3
        exact ⟨_, _, hr, .inr ⟨rfl, o', .exit id, (hIx _).stay _ _ _ _ hi3 (.putObj _ _ (by omega) (hnot (hIx _) hi3 hl3 rfl)), hl4, hk4⟩⟩
      | goto t =>
        obtain ⟨hk3, o', hi3⟩ := hp
        obtain ⟨hr, hl3, hl4, hk4⟩ := fin (some (.goto t)) W3 hk3
        exact ⟨_, _, hr, .inr ⟨rfl, o', .goto t, (hIx _).stay _ _ _ _ hi3 (.putObj _ _ (by omega) (hnot (hIx _) hi3 hl3 rfl)), hl4, hk4⟩⟩
      | panic ch => exact hp.elim
      | outgrown => exact hp.elim
    · rintro e W2 ⟨⟨v, rfl⟩, (⟨o', hi, hl, hk⟩ | ⟨pre, o', hSp, hne, c, hi, hl, hk⟩)⟩
      · exact ⟨none, _, by have := run_endLoop (P := P) hl (by rw [hrec]; simp); rw [hrec] at this; exact this, hdone _ o' _ (Nat.le_refl _) (hI.stay _ _ _ _ hi (.putObj _ _ (by omega) (hnot hI hi hl rfl))) ((World.putObj_heap_other (by omega)).trans hk)⟩
      · exact ⟨some c, _, by have := run_endLoop (P := P) hl (by rw [hrec]; simp); rw [hrec] at this; exact this, hstop _ c pre o' _ (Nat.le_refl _) hSp hne ((hIx c).stay _ _ _ _ hi (.putObj _ _ (by omega) (hnot (hIx c) hi hl rfl))) ((World.putObj_heap_other (by omega)).trans hk)⟩
end Go.Proofs.YtkbdkeclbokhdaaDoor
