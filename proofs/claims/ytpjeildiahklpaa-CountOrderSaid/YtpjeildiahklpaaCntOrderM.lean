/-
  CountOrder: its keys, a row of unlike votes, two counts, parts of a row of votes. No condition.
-/
import Derived.Test.YtpjeildiahklpaaCntRefP
import Derived.Test.YtpjeildiahklpaaCntGuard
namespace Go.Proofs.Ytpjeildiahklpaa
open Go Go.RowKit Go.Maps

/-! The key of a round, a kind and a voter. -/
theorem three_row : (53 : TypeId) < Try.prog.types.size := of_decide_eq_true (by kernel_rfl)
theorem three_wide : (match Try.prog.underlying 53 with | some (.array _ _) | some (.struct _) => true | _ => false) = true := by kernel_rfl
set_option maxRecDepth 100000 in
theorem three_law : Keyed Try.prog 53 := Keyed.of_law (deep_law_laid cnt_laid (m := 2) (by omega) three_row (by kernel_rfl) three_wide)
theorem three_keyType : Try.prog.keyType 53 = true := by kernel_rfl
theorem three_cells : Try.prog.cellsOf 53 = 3 := by kernel_rfl
theorem three_info : (Try.prog.info? 53).map (·.size) = some 3 := by kernel_rfl
theorem key3_some {r k s : Int} (hr : wfi r) (hk : wfi k) (hs : wfi s) : ∃ kl, keyOf Try.prog 53 (keyV r k s) = some kl := by
  unfold wfi at hr hk hs
  obtain ⟨m, hm⟩ := cnt_types
  have hu := Try.underlying53
  refine ⟨.string (keyBytes [.int .i64 r, .int .i64 k, .int .i64 s]), ?_⟩
  unfold keyOf keyV
  simp only [hu]
  rw [if_pos (by simp [three_keyType, Value.formed, hu, three_cells]), hm]
  unfold Program.keyLits
  simp only [hu, Value.cells]
  rw [if_pos (by simp [three_cells])]
  simp [List.mapM_cons, Program.keyLits, Try.underlying3, cnt_cells1, hr, hk, hs, List.range_succ]
theorem keyV_votes {u v : VoteT} (h : keyV u.r u.k u.s ≠ keyV v.r v.k v.s) : apartV u v := by
  rintro ⟨h1, h2, h3⟩
  exact h (by rw [h1, h2, h3])
theorem load_key3 {W : World} {g : Nat} {r k s : Int} (h : Blk W g 53 #[.int .i64 r, .int .i64 k, .int .i64 s]) : (Instr.loadAt 53 (.pointer (some ⟨g, 0, none⟩))).run Try.prog W = .ok (keyV r k s) W := run_loadVar_row W g 53 53 #[.int .i64 r, .int .i64 k, .int .i64 s] (0, 0) _ h Try.underlying53 rfl three_info
/-! Parts of a row of votes. -/
def cutW (A : Option Addr) (cap k : Nat) : Option Addr := if cap = k then A else A.map (·.add (k * 35))
theorem RdW.dropped {W : World} {B : Nat} {A : Option Addr} {n c : Nat} {l : List VoteT} (h : RdW W B (.slice A n c) l) {t : Nat} (ht : t ≤ n) : RdW W B (.slice (cutW A c t) (n - t) (c - t)) (l.drop t) := by
  obtain ⟨h0, A', c', hv, h2, h3, h4⟩ := h
  obtain ⟨rfl, rfl, rfl⟩ := Value.slice.inj hv
  refine ⟨fun x hx => h0 x (List.mem_of_mem_drop hx), cutW A c t, c - t, by rw [List.length_drop], by rw [List.length_drop]; omega, by rw [List.length_drop]; omega, fun hl => ?_⟩
  rw [List.length_drop] at hl
  obtain ⟨ad, rfl, q2, q3⟩ := h4 (by omega)
  refine ⟨ad.add (t * 35), by unfold cutW; rw [if_neg (by omega)]; rfl, by rw [block_add]; exact q2, fun k x hk i hi => ?_⟩
  rw [List.getElem?_drop] at hk
  rw [add_add', show t * 35 + (35 * k + i) = 35 * (t + k) + i by omega]
  exact q3 _ x hk i hi
theorem RdW.taken {W : World} {B : Nat} {A : Option Addr} {n c : Nat} {l : List VoteT} (h : RdW W B (.slice A n c) l) {t : Nat} (ht : t ≤ n) : RdW W B (.slice A t c) (l.take t) := by
  obtain ⟨h0, A', c', hv, h2, h3, h4⟩ := h
  obtain ⟨rfl, rfl, rfl⟩ := Value.slice.inj hv
  have hlen : (l.take t).length = t := by rw [List.length_take]; omega
  refine ⟨fun x hx => h0 x (List.mem_of_mem_take hx), A, c, by rw [hlen], by omega, by omega, fun hl => ?_⟩
  obtain ⟨ad, rfl, q2, q3⟩ := h4 (by omega)
  refine ⟨ad, rfl, q2, fun k x hk i hi => q3 k x ?_ i hi⟩
  rw [List.getElem?_take] at hk
  split at hk
  · exact hk
  · cases hk
theorem vote_size (w : World) : (sizeOf 26).run Try.prog w = .ok 35 w := by
  cases hq : Try.prog.info? 26 with
  | none => have := vote_info; simp [hq] at this
  | some i =>
    have hs : i.size = 35 := by have := vote_info; simpa [hq] using this
    simp [sizeOf, typeInfo, hq, hs]
theorem run_sliceW_from (A : Option Addr) (len cap t : Nat) (ht : t ≤ len) (w : World) : (Instr.sliceAt 22 (.slice A len cap) (some (.int .i64 (t : Int))) none none).run Try.prog w = .ok (.slice (cutW A cap t) (len - t) (cap - t)) w := by
  simp [Instr.sliceAt, Instr.slice, run_underlying Try.underlying22, Instr.sliceBounds, Instr.sliceBound, asIntOf, Sem.run_bind, cutW, ht]
theorem run_sliceW_to (A : Option Addr) (len cap t : Nat) (ht : t ≤ cap) (w : World) : (Instr.sliceAt 22 (.slice A len cap) none (some (.int .i64 (t : Int))) none).run Try.prog w = .ok (.slice A t cap) w := by
  simp [Instr.sliceAt, Instr.slice, run_underlying Try.underlying22, Instr.sliceBounds, Instr.sliceBound, asIntOf, Sem.run_bind, ht]
  intro _
  cases A with
  | none => rfl
  | some a =>
    show some (a.add 0) = some a
    unfold Addr.add
    split <;> simp_all
/-- A slice taken, in a region that draws its order. -/
theorem yields_slice {P : Program} {ops : Array Oper} {S : World → Prop} {op : Oper} {a : Act} (hw : Region.wanted op (yielded ops a.tmps) = true) (t : TypeId) (x : Operand) (lo hi : Option Operand) (ho : op.op = .slice t x lo hi none) (vx : Value) (hx : a.eval x = vx) (vlo vhi : Option Value) (hlo : lo.map a.eval = vlo) (hhi : hi.map a.eval = vhi) (v : Value)
    (hS : ∀ w, (Instr.sliceAt t vx vlo vhi none).run P w = .ok v w) : YieldsIf P ops S op v a :=
  .inl ⟨hw, fun w _ => by
    have hl := hS w
    subst hlo hhi
    unfold execOp
    simp only [ho, hx, Option.map_none, Sem.run_bind, hl, Sem.run_pure, Result.andThen_ok]⟩
/-! The votes of which no two are of one round, kind and voter. -/
structure SeenR (W3 : World) (S : Nat) (T : Value → Option Value) (L : List VoteT) (j : Nat) (v : Value) (W : World) : Prop where
  map : MapV Try.prog 53 W S j T
  val : ∀ key x, T key = some x → x = .bool true
  mem : ∀ u ∈ L, T (keyV u.r u.k u.s) = some (.bool true)
  own : W.ownsRow (S + 1) 26 35 v L.length (votesC L)
  apart : L.Pairwise apartV
  ok : ∀ x ∈ L, VoteOk x
  len : L.length ≤ j
  below : Below W3.heap.size W3 W
  size : W3.heap.size = S ∧ S < W.heap.size
theorem SeenR.kept {W3 : World} {S : Nat} {T : Value → Option Value} {L : List VoteT} {j : Nat} {v : Value} {W W' : World} (h : SeenR W3 S T L j v W) (hb : Below W.heap.size W W') : SeenR W3 S T L j v W' :=
  ⟨h.map.same (hb.block _ h.map.lt), h.val, h.mem, rowV_kept h.own hb, h.apart, h.ok, h.len, h.below.trans (hb.mono h.below.size), h.size.1, by have := hb.size; have := h.size; omega⟩
theorem putT_val {T : Value → Option Value} {key : Value} (h : ∀ k x, T k = some x → x = .bool true) : ∀ k x, putV T key (.bool true) k = some x → x = .bool true := fun k x hx => by
  by_cases he : k = key
  · rw [he, putV_same] at hx
    exact (Option.some.inj hx).symm
  · rw [putV_other he] at hx
    exact h k x hx
theorem SeenR.again {W3 : World} {S : Nat} {T : Value → Option Value} {L : List VoteT} {j : Nat} {v : Value} {W W' : World} (h : SeenR W3 S T L j v W) {key : Value} (hm : MapV Try.prog 53 W' S (j + 1) (putV T key (.bool true))) (ht : W.mapTurned W' S) : SeenR W3 S (putV T key (.bool true)) L (j + 1) v W' := by
  have hz := turned_size ht
  refine ⟨hm, putT_val h.val, fun u hu => ?_, ⟨h.own.1, ?_⟩, h.apart, h.ok, by have := h.len; omega, h.below.trans (below_of_grown (grown_of_turned ht) (by have := h.size; omega) h.below.size), h.size.1, by have := h.size; omega⟩
  · by_cases he : keyV u.r u.k u.s = key
    · rw [he, putV_same]
    · rw [putV_other he]
      exact h.mem u hu
  · rcases h.own.2 with h0 | ⟨g, cap, cur, h1, h2, h3, h4⟩
    · exact .inl h0
    · exact .inr ⟨g, cap, cur, h1, h2, (turned_other ht (by omega)).trans h3, h4⟩
theorem SeenR.more {W3 : World} {S : Nat} {T : Value → Option Value} {L : List VoteT} {j : Nat} {v v' : Value} {W W' : World} (h : SeenR W3 S T L j v W) {x : VoteT} (hx : VoteOk x) (hn : T (keyV x.r x.k x.s) = none)
    (hown : W'.ownsRow (S + 1) 26 35 v' (L.length + 1) (votesC L ++ votesC [x])) (hg : W.grownBy W' v.ownBlock) : MapV Try.prog 53 W' S j T ∧ ∀ W'', MapV Try.prog 53 W'' S (j + 1) (putV T (keyV x.r x.k x.s) (.bool true)) → W'.mapTurned W'' S → SeenR W3 S (putV T (keyV x.r x.k x.s) (.bool true)) (L ++ [x]) (j + 1) v' W'' := by
  have hnb : some S ≠ v.ownBlock := fun e => by have := (h.own.lt S e.symm).1; omega
  have hbw : Below W3.heap.size W3 W' := h.below.grown hg h.below.size (fun i hi => by have := (h.own.lt i hi).1; have := h.size; omega)
  have hm' := h.map.same (hg.block _ h.map.lt hnb)
  refine ⟨hm', fun W'' hm ht => ?_⟩
  have hz := turned_size ht
  have hgs := hg.size
  have e : (L ++ [x]).length = L.length + 1 := by simp
  refine ⟨hm, putT_val h.val, fun u hu => ?_, ⟨?_, ?_⟩, ?_, fun y hy => ?_, by rw [List.length_append, List.length_singleton]; have := h.len; omega, hbw.trans (below_of_grown (grown_of_turned ht) (by have := h.size; omega) hbw.size), h.size.1, by have := h.size; omega⟩
  · rcases List.mem_append.1 hu with hu | hu
    · by_cases he : keyV u.r u.k u.s = keyV x.r x.k x.s
      · rw [he, putV_same]
      · rw [putV_other he]
        exact h.mem u hu
    · rw [List.mem_singleton] at hu
      rw [hu, putV_same]
  · rw [votesC_append, e]
    exact hown.1
  · rw [votesC_append, e]
    rcases hown.2 with h0 | ⟨g, cap, cur, h1, h2, h3, h4⟩
    · exact .inl h0
    · exact .inr ⟨g, cap, cur, h1, h2, (turned_other ht (by omega)).trans h3, h4⟩
  · refine List.pairwise_append.2 ⟨h.apart, by simp, fun u hu y hy => ?_⟩
    rw [List.mem_singleton] at hy
    subst hy
    refine keyV_votes fun e => ?_
    have := h.mem u hu
    rw [e, hn] at this
    cases this
  · rcases List.mem_append.1 hy with hy | hy
    · exact h.ok y hy
    · rw [List.mem_singleton] at hy
      rw [hy]
      exact hx
/-- A row of votes stays where the count's map turns. -/
theorem RdW.turnedM {W W' : World} {Bc M n : Nat} {N : Int} {V : Vt} {v : Value} {l : List VoteT} (h : RdW W W.heap.size v l) (hc : CountAt W Bc M n N V) (hg : W.grownBy W' (some M)) : RdW W' W'.heap.size v l := by
  obtain ⟨h0, A, c, h1, h2, h3, h4⟩ := h
  refine ⟨h0, A, c, h1, h2, h3, fun hl => ?_⟩
  obtain ⟨ad, q1, q2, q3⟩ := h4 hl
  have hne : ad.block ≠ M := by
    intro e
    obtain ⟨x, hx⟩ : ∃ x, l[0]? = some x := ⟨_, List.getElem?_eq_getElem hl⟩
    have h5 := q3 0 x hx 0 (by omega)
    have hlen := voteC_length (h0 x (List.mem_of_getElem? hx))
    rw [List.getElem?_eq_getElem (by omega)] at h5
    obtain ⟨_, ⟨T, ⟨D, ⟨es, c', h6, _⟩, _⟩, _⟩, _⟩ := hc
    unfold World.cell? at h5
    rw [block_add, e, h6] at h5
    cases h5
  refine ⟨ad, q1, Nat.lt_of_lt_of_le q2 hg.size, fun k x hk i hi => ?_⟩
  rw [← q3 k x hk i hi]
  unfold World.cell?
  rw [block_add, hg.block _ q2 (fun e => hne (Option.some.inj e))]
/-- Two counts, into the first of which a row of votes is put. -/
structure OrdP (W1 : World) (B M B' M' N : Nat) (V V' : Vt) (m m' : Nat) (v : Value) (L : List VoteT) (W : World) : Prop where
  ca : CountAt W B M m N V
  cb : CountAt W B' M' m' N V'
  row : RdW W W.heap.size v L
  below : Below W1.heap.size W1 W
  apart : M ≠ B' ∧ M ≠ M' ∧ W1.heap.size ≤ M
section
variable {W1 : World} {B M B' M' N : Nat} {V V' V2 : Vt} {m m' k : Nat} {v : Value} {L : List VoteT} {W W' : World}
theorem OrdP.kept (h : OrdP W1 B M B' M' N V V' m m' v L W) (hb : Below W.heap.size W W') : OrdP W1 B M B' M' N V V' m m' v L W' :=
  ⟨h.ca.below hb, h.cb.below hb, (h.row.old hb).mono hb.size, h.below.trans (hb.mono h.below.size), h.apart⟩
theorem OrdP.put (h : OrdP W1 B M B' M' N V V' m m' v L W) (hc : CountAt W' B M k N V2) (hg : W.grownBy W' (some M)) : OrdP W1 B M B' M' N V2 V' k m' v L W' :=
  ⟨hc, h.cb.same (hg.block _ h.cb.ltB (fun e => h.apart.1 (Option.some.inj e).symm)) (hg.block _ h.cb.ltM (fun e => h.apart.2.1 (Option.some.inj e).symm)), h.row.turnedM h.ca hg, h.below.trans (below_of_grown hg h.apart.2.2 h.below.size), h.apart⟩
end
theorem foldV_take {n : Int} {L : List VoteT} {j : Nat} {x : VoteT} (h : L[j]? = some x) (V : Vt) : foldV n (L.take (j + 1)) V = putT n (foldV n (L.take j) V) x.r x.k x.s x.id := by
  unfold foldV
  rw [List.take_add_one, h]
  simp
theorem neq_boolM (b : Bool) (w : World) : (binOp .neq 4 (.bool b) (.bool b)).run Try.prog w = .ok (.bool false) w := by cases b <;> kernel_rfl
end Go.Proofs.Ytpjeildiahklpaa
