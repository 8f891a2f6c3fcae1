/-
  Arguments read as data, opened: numbers, IDs, slices of IDs and votes, within the form's own reach; and that an argument reads behind the call as it did where nothing old has turned. No condition of their own.
  The count of votes: the guard of its laws, and the document's Nil. No condition.
  CountOne: rows of IDs, two counts side by side, and what is sure in both. No condition.
  The reference's count: For. No condition.
  The reference's count: Put; rows of votes that grow. No condition.
-/
import Derived.Test.YtbgojlcciealiaaRows
import Derived.Test.YtbgojlcciealiaaQBase
import Derived.ProofKit
import Derived.OpenShut
import Derived.Deep.DeepHandedRow
import Derived.LaidMore
import Derived.Deep.Slices
import Derived.SizedLaws
import Derived.WideKeyArgs
import Derived.Test.YtbgojlcciealiaaCntAhead
import Derived.Deep.RegionHeld3
import Derived.Laws.ResultCell
import Derived.Maps.AppendAt
import Derived.Great.Walk
import Derived.OwnWalk
namespace Go.Proofs.Ytbgojlcciealiaa
open Go Go.RowKit Go.ChangeShapes Go.WideShapes Go.ChangeAt

theorem own : ownKnob Try.prog.godebug = none := by kernel_rfl
theorem laidOut' : laidOutB Try.prog = true := by kernel_rfl
section
variable {H : Type} {enc : TypeId × Value → H}
/-- An argument reads as it did. -/
theorem stays {t : TypeId} (hr : Try.prog.readableRec t = true) (hrow : t < Try.prog.types.size) {W W' : World} {v : Value} {d : DataW H} {ps : List MemPlace} (h : DataW.Trod enc Try.prog W 0 (fun _ => true) true t v d ps) (hb : Below W.heap.size W W')
    (hlt : ∀ p ∈ ps, p.block < W.heap.size) {sp : Nat → Bool} (hs : ∀ p ∈ ps, sp p.block = true) : DataW.Trod enc Try.prog W' 0 sp true t v d ps :=
  WideElems.Trod_stays laidOut' hr hrow h (fun x hx => hb.same (hlt x hx)) hs
end
section
variable {H : Type} {enc : TypeId × Value → H} {P : Program}
/-- The guide's 'post_of_below' (howto/extra-small.md): nothing that lay below the heap's size has turned. -/
theorem post_of_below {f : Func} {s : ChangeSpec} {apart fresh handsOn again : Bool} {W W' : World} {args : Array Value} {v : Value} {ds gs : List (DataW H)} {before pa pv : List MemPlace}
    (hW : DataW.Whole enc P f.params.toList s.vars apart W args.toList ds gs before)
    (hres : ∀ (b : Nat) (sp : Nat → Bool) (hd : Bool), DataW.TrodAll enc P W' b sp hd f.resultTypes.toList (v.resultList f.resultTypes.size) (s.fn H (ds ++ gs)).results [])
    (hargs : ∀ sp : Nat → Bool, (∀ p ∈ before, sp p.block = true) → DataW.TrodAll enc P W' 0 sp true f.params.toList args.toList (s.fn H (ds ++ gs)).args pa)
    (hvars : ∀ sp : Nat → Bool, (∀ p ∈ before, sp p.block = true) → DataW.TrodVars enc P W' sp s.vars (s.fn H (ds ++ gs)).vars pv)
    (hps : before = pa ++ pv) (hb : Below W.heap.size W W')
    (hok : ∀ (j : Nat) (t : TypeId) (r : Value), f.resultTypes[j]? = some t → (v.resultList f.resultTypes.size)[j]? = some r → Value.okWide P W' .any 0 t r) :
    s.post enc P f apart fresh handsOn again W args v W' := by
  have hlt : ∀ p ∈ before, p.block < W.heap.size := fun p hp => hW.lt p hp
  have hold : ∀ p ∈ before, (fun b => decide (b < W.heap.size)) p.block = true := fun p hp => by simpa using hlt p hp
  refine ⟨ds, gs, before, [], pa, pv, hW, hres _ _ _, hargs _ hold, hvars _ hold, World.keptBut_mono (fun p hp => ⟨hp, ?_⟩) (hb.frame (· ∈ before)), fun _ => ?_⟩
  · rw [hps, List.mem_append] at hp
    exact Or.inr hp
  · obtain ⟨_, _, _, _, _, hz, hn⟩ := hW
    refine ⟨hok, _, _, ([] ++ pa) ++ pv, ⟨[] ++ pa, pv, trodAll_append (hargs _ (fun _ _ => rfl)) (hres _ _ _), hvars _ (fun _ _ => rfl), rfl, ?_, ?_⟩, ?_⟩
    · intro b off hp
      have hin : MemPlace.cell b off ∈ before := by rw [hps]; simpa using hp
      rw [hb.frozen (hlt _ hin)]
      exact hz b off hin
    · intro ha
      have := hn ha
      rw [hps] at this
      simpa using this
    · intro p hp _
      rw [hps]
      simpa using hp
end
end Go.Proofs.Ytbgojlcciealiaa
namespace Go.Proofs.Ytbgojlcciealiaa
open Go Go.RowKit Go.Maps

section
variable {P : Program} {ops : Array Oper} {rest : List Oper} {o : Oper} {a : Act} {w : World} {Q : Exit → Act → World → Prop}
theorem wpList_load_runS (hw : Region.wanted o (yielded ops a.tmps) = true) (ty : TypeId) (x : Operand) (ho : o.op = .load ty x) (p v : Value) (hx : a.eval x = p) (hl : (Instr.loadAt ty p).run P w = .ok v w)
    (h : wpList P ops Q rest (a.put o.dst v) w) : wpList P ops Q (o :: rest) a w :=
  wpList_step fun K hK => by
    rw [if_pos hw]
    exact oper_load ty x ho p v hx hl (hK _ _ h)
end
def sevenId : List UInt8 := 7 :: List.replicate 31 0
theorem wfi_small {n : Int} (h1 : -1000000 ≤ n) (h2 : n ≤ 1000000) : wfi n := by
  unfold wfi Lit.wf
  simp only [Bool.and_eq_true, decide_eq_true_eq]
  exact ⟨Int.le_trans (by decide) h1, Int.le_trans h2 (by decide)⟩
theorem below_of_grown {w w' : World} {g b : Nat} (h : w.grownBy w' (some g)) (hb : b ≤ g) (hw : b ≤ w.heap.size) : Below b w w' :=
  ⟨h.os, h.tape, h.output, h.size, fun i hi => h.block i (by omega) (by simp; omega)⟩
set_option maxRecDepth 100000 in
theorem seven_built : Try.prog.built 24 [(0, .int .u8 7)] = some (idC sevenId) := by kernel_rfl
set_option maxRecDepth 100000 in
theorem zero_built' : Try.prog.built 24 [] = some (idC zeroId) := by kernel_rfl
end Go.Proofs.Ytbgojlcciealiaa
namespace Go.Proofs.Ytbgojlcciealiaa
open Go Go.RowKit Go.Maps

theorem run_loadAt_cells {P : Program} (ty : TypeId) (ad : Addr) (N : Nat) (f : Nat → Value) (e : TypeId) (w : World) (hg : ∀ i, i < N → w.cell? (ad.add i) = some (f i))
    (hu : P.underlying ty = some (.array N e)) (hi : (P.info? ty).map (·.size) = some N) : (Instr.loadAt ty (.pointer (some ad))).run P w = .ok (.agg (arr N f)) w := by
  have hl := run_loadCells_list (P := P) w ad (arr N f).toList (fun j v hv => by
    rw [Array.getElem?_toList, arr_get] at hv
    by_cases hj : j < N
    · rw [if_pos hj] at hv
      cases hv
      exact hg j hj
    · rw [if_neg hj] at hv; cases hv)
  simp only [Array.length_toList, arr_size, Array.toArray_toList] at hl
  cases hq : P.info? ty with
  | none => simp [hq] at hi
  | some i =>
    have hs : i.size = N := by simpa [hq] using hi
    have hagg : (isAgg ty).run P w = .ok true w := by
      unfold isAgg
      rw [Sem.run_bind, run_underlying hu w]
      rfl
    simp [Instr.loadAt, Instr.sureAddr, loadVar, Sem.run_bind, hagg, sizeOf, typeInfo, hq, hs, hl]
theorem add_add' (a : Addr) (i j : Nat) : (a.add i).add j = a.add (i + j) := Go.Deep.add_add a i j
theorem arr_idv {l : List UInt8} (h : IdOk l) : Value.agg (arr 32 fun i => Extern.Stop.cell (l.getD i 0)) = idv l := by
  unfold idv
  congr 1
  refine Array.ext_getElem? fun i => ?_
  rw [arr_get]
  unfold IdOk at h
  by_cases hi : i < 32
  · rw [if_pos hi, List.getElem?_toArray, List.getElem?_map, List.getElem?_eq_getElem (by omega), List.getD_eq_getElem?_getD, List.getElem?_eq_getElem (by omega)]
    rfl
  · rw [if_neg hi, List.getElem?_toArray, List.getElem?_eq_none (by simp; omega)]
theorem run_load_id (w : World) (ad : Addr) (l : List UInt8) (hl : IdOk l) (h : ∀ i, i < 32 → w.cell? (ad.add i) = some (Extern.Stop.cell (l.getD i 0))) : (Instr.loadAt 24 (.pointer (some ad))).run Try.prog w = .ok (idv l) w := by
  have := run_loadAt_cells (P := Try.prog) 24 ad 32 (fun i => Extern.Stop.cell (l.getD i 0)) 5 w h Try.underlying24 (by kernel_rfl)
  rw [arr_idv hl] at this
  exact this
/-! Two counts side by side. -/
section
variable {w wr w' : World} {g B1 M1 B2 M2 n1 n2 : Nat} {N : Int} {V1 V2 V' : Vt} {ty : TypeId} {vs : Array Value}
end
end Go.Proofs.Ytbgojlcciealiaa
namespace Go.Proofs.Ytbgojlcciealiaa
open Go Go.RowKit Go.Maps

theorem yields_run {P : Program} {ops : Array Oper} {S : World → Prop} {op : Oper} {a : Act} (hw : Region.wanted op (yielded ops a.tmps) = true) (ty : TypeId) (x : Operand) (ho : op.op = .load ty x) (p v : Value) (hx : a.eval x = p)
    (hS : ∀ w, S w → (Instr.loadAt ty p).run P w = .ok v w) : YieldsIf P ops S op v a :=
  .inl ⟨hw, fun w hw' => by
    have hl := hS w hw'
    unfold execOp
    simp only [ho, hx, Sem.run_bind, hl, Sem.run_pure, Result.andThen_ok]⟩
end Go.Proofs.Ytbgojlcciealiaa
namespace Go.Proofs.Ytbgojlcciealiaa
open Go Go.RowKit Go.Maps

theorem rowV_kept {B : Nat} {e : TypeId} {k : Nat} {v : Value} {n : Nat} {xs : List Value} {w w' : World} (h : w.ownsRow B e k v n xs) (hb : Below w.heap.size w w') : w'.ownsRow B e k v n xs := by
  refine ⟨h.1, ?_⟩
  rcases h.2 with h0 | ⟨g, cap, cur, h1, h2, h3, h4⟩
  · exact .inl h0
  · refine .inr ⟨g, cap, cur, h1, h2, (hb.block g ?_).trans h3, h4⟩
    rcases Nat.lt_or_ge g w.heap.size with h' | h'
    · exact h'
    · rw [Array.getElem?_eq_none h'] at h3; cases h3
section
variable {P : Program}
theorem oper_append {o : Oper} {a : Act} {w : World} {K : Act → World → Prop} {Q : Exit → Act → World → Prop} (s x : Operand) (t t' : TypeId) (ho : o.op = .call { callee := .builtin .append, args := #[s, x], argTypes := #[t, t'] })
    (vs vx : Value) (hs : a.eval s = vs) (hx : a.eval x = vx) (v : Value) (w' : World) (hrun : (Builtin.append_ #[t, t'] o.type #[vs, vx]).run P w = .ok v w') (h : K (a.put o.dst v) w') : Oper.wp P o a w K Q := by
  unfold Oper.wp
  simp [execOp, ho, resolve, invoke, builtin, hs, hx, hrun, Result.andThen, Oper.upon]
  exact h
theorem wpList_append_run {ops : Array Oper} {rest : List Oper} {o : Oper} {a : Act} {w : World} {Q : Exit → Act → World → Prop} (hgd : o.guard = none) (s x : Operand) (t t' : TypeId) (ho : o.op = .call { callee := .builtin .append, args := #[s, x], argTypes := #[t, t'] })
    (vs vx : Value) (hs : a.eval s = vs) (hx : a.eval x = vx) (v : Value) (w' : World) (hrun : (Builtin.append_ #[t, t'] o.type #[vs, vx]).run P w = .ok v w') (h : wpList P ops Q rest (a.put o.dst v) w') : wpList P ops Q (o :: rest) a w :=
  wpList_plain hgd fun _ hK => oper_append s x t t' ho vs vx hs hx v w' hrun (hK _ _ h)
end
end Go.Proofs.Ytbgojlcciealiaa
