/-
  Layer 10: the law JournalBound. In whatever memory in which the tables lie. No condition.
  Layer 10: the law JournalWhole. In whatever memory in which the tables lie. No condition.
  JournalPlays: what holds between two steps: the journal and its slab, the reference's beside them. No condition.
  JournalPlays: a round's calls, as the two sides stand beside the step. No condition.
-/
import Derived.Test.YtgpbpdjamimbfaaDoorJrnHall
import Derived.Test.YtgpbpdjamimbfaaDoorJrnRefW
import Derived.Test.YtgpbpdjamimbfaaDoorJrnRefO
namespace Go.Proofs.YtgpbpdjamimbfaaDoor
open Go Go.RowKit Go.Shelf

theorem neq_sameJ (f : Nat → UInt8) (w : World) : (binOp .neq 37 (.agg (arr 32 fun i => bv (f i))) (.agg (arr 32 fun i => bv (f i)))).run Tryd.prog w = .ok (.bool false) w := by
  have := neq_idJ f f w
  rw [beq_self_eq_true] at this
  exact this
end Go.Proofs.YtgpbpdjamimbfaaDoor
namespace Go.Proofs.YtgpbpdjamimbfaaDoor
open Go Go.RowKit Go.Shelf

/-- What is done to the slab alone. -/
theorem js_left {w : World} {T : Nat → Prop} {g gd : Nat} {s : JrnS} {sd sd' : SlabS} {f : FuncId} {args : Array Value} {r : Ending} (h : JS w T g gd s sd) (hc : ∀ Z, SlabAt w Z gd sd → Calls Tryd.prog f args w fun e w' => e = r ∧ Left Z gd sd' w w') :
    Calls Tryd.prog f args w fun e w' => e = r ∧ JOut T g gd s sd' w w' := by
  have h' := h
  obtain ⟨Y, Z, h1, h2, h3, h4, h5, h6⟩ := h
  refine (hc Z h2).mono ?_
  rintro e w' ⟨he, hl⟩
  exact ⟨he, JOut.of h' h4 h5 (bleft_lay h1 h3 (Below.refl _ _) hl)⟩
theorem js_new {w : World} {T : Nat → Prop} {gd : Nat} {sd : SlabS} {g : Nat} {s : JrnS} (h : JS w T g gd s sd) : ∃ Y Z, JrnAt w Y g gd s ∧ SlabAt w Z gd sd ∧ (∀ i, Y i → ¬ Z i) ∧ (∀ i, Y i → T i) ∧ (∀ i, Z i → T i) := by
  obtain ⟨Y, Z, h1, h2, h3, h4, h5, h6⟩ := h
  exact ⟨Y, Z, h1, h2, h3, h4, h5⟩
end Go.Proofs.YtgpbpdjamimbfaaDoor
namespace Go.Proofs.YtgpbpdjamimbfaaDoor
open Go Go.RowKit Go.Shelf

structure OpR where
  kind : Int
  n : Int
  x : UInt8
  data : List UInt8
/-- A slice of steps. -/
def RdOps (W : World) (ok : Nat → Prop) (A : Option Addr) (ops : List OpR) : Prop :=
  ∀ k, k < ops.length → ∃ (ad : Addr) (o : OpR) (Ad : Option Addr) (cd : Nat), A = some ad ∧ ok ad.block ∧ ops[k]? = some o ∧ W.cell? (ad.add (4 * k)) = some (.int .i64 o.kind) ∧ W.cell? (ad.add (4 * k + 1)) = some (.int .i64 o.n) ∧ W.cell? (ad.add (4 * k + 2)) = some (.int .u8 (o.x.toNat : Int)) ∧
    W.cell? (ad.add (4 * k + 3)) = some (.slice Ad o.data.length cd) ∧ RdB W ok (.slice Ad o.data.length cd) o.data ∧ -9223372036854775808 ≤ o.n ∧ o.n ≤ 9223372036854775807
theorem RdOps.kept {W W' : World} {ok : Nat → Prop} {A : Option Addr} {ops : List OpR} (h : RdOps W ok A ops) (hk : ∀ (a : Addr) (x : Value), ok a.block → W.cell? a = some x → W'.cell? a = some x) : RdOps W' ok A ops := fun k hlt => by
  obtain ⟨ad, o, Ad, cd, h1, h2, h3, c0, c1, c2, c3, hr, h4⟩ := h k hlt
  exact ⟨ad, o, Ad, cd, h1, h2, h3, hk _ _ (by rw [block_add]; exact h2) c0, hk _ _ (by rw [block_add]; exact h2) c1, hk _ _ (by rw [block_add]; exact h2) c2, hk _ _ (by rw [block_add]; exact h2) c3, hr.kept hk, h4⟩
theorem addr_at (ad : Addr) (k j : Nat) (hj : 0 < j) : ad.add (4 * k + j) = ⟨(ad.add (k * 4)).block, (ad.add (k * 4)).off + j, none⟩ := by
  rw [← add_add, Nat.mul_comm]
  generalize ad.add (k * 4) = a
  unfold Addr.add
  rw [if_neg (by omega)]
theorem RdOps.at {W : World} {ok : Nat → Prop} {A : Option Addr} {ops : List OpR} (h : RdOps W ok A ops) {k : Nat} (hlt : k < ops.length) :
    ∃ (ad : Addr) (o : OpR) (Ad : Option Addr) (cd : Nat), A = some ad ∧ W.cell? (ad.add (k * 4)) = some (.int .i64 o.kind) ∧ W.cell? ⟨(ad.add (k * 4)).block, (ad.add (k * 4)).off + 1, none⟩ = some (.int .i64 o.n) ∧ W.cell? ⟨(ad.add (k * 4)).block, (ad.add (k * 4)).off + 2, none⟩ = some (.int .u8 (o.x.toNat : Int)) ∧
      W.cell? ⟨(ad.add (k * 4)).block, (ad.add (k * 4)).off + 3, none⟩ = some (.slice Ad o.data.length cd) ∧ RdB W ok (.slice Ad o.data.length cd) o.data ∧ -9223372036854775808 ≤ o.n ∧ o.n ≤ 9223372036854775807 := by
  obtain ⟨ad, o, Ad, cd, h1, h2, h3, c0, c1, c2, c3, hr, h4⟩ := h k hlt
  rw [Nat.mul_comm] at c0
  rw [addr_at ad k 1 (by omega)] at c1
  rw [addr_at ad k 2 (by omega)] at c2
  rw [addr_at ad k 3 (by omega)] at c3
  exact ⟨ad, o, Ad, cd, h1, c0, c1, c2, c3, hr, h4⟩
/-- The journal g on the slab gd, in T; the reference's r on rd in block gm, its records in v. -/
def JPC (w : World) (T : Nat → Prop) (g gd gm : Nat) (v : Value) (s : JrnS) (sd : SlabS) (r : JrnS) (rd : SlabS) (W : World) : Prop :=
  JS W T g gd s sd ∧ (∀ i, T i → w.heap.size ≤ i) ∧ ¬ T gm ∧ w.heap.size ≤ gm ∧ Blk W gm 39 (arr 38 (rjF rd v r.last r.down)) ∧ W.ownsRow w.heap.size 9 1 v r.recs.length (strC r.recs).flatten ∧ (∀ i, v.ownBlock = some i → ¬ T i) ∧ Below w.heap.size w W
/-- What a step leaves. -/
def JPO (w : World) (T : Nat → Prop) (g gd gm : Nat) (v : Value) (s : JrnS) (sd : SlabS) (r : JrnS) (rd : SlabS) (W W' : World) : Prop :=
  ∃ T', JPC w T' g gd gm v s sd r rd W' ∧ Turn T W W' ∧ ∀ i, T' i → T i ∨ W.heap.size ≤ i
section
variable {w W W' : World} {T : Nat → Prop} {g gd gm : Nat} {v : Value} {s : JrnS} {sd : SlabS} {r : JrnS} {rd : SlabS}
theorem JPC.below (h : JPC w T g gd gm v s sd r rd W) (hb : Below W.heap.size W W') : JPC w T g gd gm v s sd r rd W' := by
  obtain ⟨h1, h2, h3, h4, h5, h6, h7, h8⟩ := h
  exact ⟨h1.below hb, h2, h3, h4, h5.below hb h5.lt, ownsRow_kept h6 hb, h7, h8.trans (hb.mono h8.size)⟩
theorem JPC.old (h : JPC w T g gd gm v s sd r rd W) : Below w.heap.size w W := h.2.2.2.2.2.2.2
theorem JPC.to {T' : Nat → Prop} {g' : Nat} {s' : JrnS} {sd' : SlabS} (h : JPC w T g gd gm v s sd r rd W) (q1 : JS W' T' g' gd s' sd') (q2 : Turn T W W') (q3 : ∀ i, T' i → T i ∨ W.heap.size ≤ i) : JPO w T g' gd gm v s' sd' r rd W W' := by
  obtain ⟨h1, h2, h3, h4, h5, h6, h7, h8⟩ := h
  have hs := h8.size
  refine ⟨T', ⟨q1, fun i hi => (q3 i hi).elim (h2 i) fun q => by omega, fun hi => (q3 gm hi).elim h3 fun q => by have := h5.lt; omega, h4, q2.blk h5 h3, q2.own h6 fun i hi ht => h7 i hi ht, fun i hi ht => (q3 i ht).elim (h7 i hi) fun q => by have := (h6.lt i hi).2; omega, below_turn h8 (Nat.le_refl _) q2 h2⟩, q2, q3⟩
/-- The reference's turns. -/
theorem JPC.ref {v' : Value} {r' : JrnS} {rd' : SlabS} (h : JPC w T g gd gm v s sd r rd W) (hb : Below W.heap.size W W') (ho : W'.ownsRow w.heap.size 9 1 v' r'.recs.length (strC r'.recs).flatten) (hv : v' = v ∨ ∀ i, v'.ownBlock = some i → W.heap.size ≤ i) :
    JPC w T g gd gm v' s sd r' rd' (W'.setRow gm (arr 38 (rjF rd' v' r'.last r'.down))) := by
  obtain ⟨h1, h2, h3, h4, h5, h6, h7, h8⟩ := h.below hb
  have ht := turn_setRowR W' gm (arr 38 (rjF rd' v' r'.last r'.down))
  have hlt := h.1.lt
  refine ⟨h1.turn ht (fun i hi e => h3 (e ▸ hi)), h2, h3, h4, h5.setRow _, ht.own ho fun i hi e => own_neR ho h5 (by decide) (by rw [hi, e]), fun i hi hT => ?_, below_setRow h8 h4 _⟩
  rcases hv with rfl | hv
  · exact h7 i hi hT
  · have := hv i hi
    have := hlt i hT
    omega
theorem JPC.part {rd' : SlabS} (h : JPC w T g gd gm v s sd r rd W) : JPC w T g gd gm v s sd r rd' (W.setRow gm (arr 38 (rjF rd' v r.last r.down))) :=
  h.ref (Below.refl _ _) h.2.2.2.2.2.1 (.inl rfl)
theorem JPC.ok (h : JPC w T g gd gm v s sd r rd W) : sd.Ok := by
  obtain ⟨⟨_, _, _, h2, _⟩, _⟩ := h
  obtain ⟨_, _, _, _, _, _, q⟩ := h2
  exact q
theorem JPC.opened {s' : JrnS} {sd' : SlabS} (h : JPC w T g gd gm v s sd r rd W) (hT : Tables w) (ho : openJ sd = (some s', sd', 0)) :
    Calls Tryd.prog 13 #[.pointer (some ⟨gd, 0, none⟩)] W fun e w' => ∃ g', e = .returned (.tuple #[.pointer (some ⟨g', 0, none⟩), .int .i64 0]) ∧ JPO w T g' gd gm v s' sd' r rd W w' := by
  obtain ⟨Y, Z, h1, h2, h3, h4, h5⟩ := js_new h.1
  refine (js_open (hT.below h.old) h2 ho).mono ?_
  rintro e w' ⟨g', S', rfl, q1, q2, q3⟩
  exact ⟨g', rfl, h.to q1 (q2.mono fun i _ hi => h5 i hi) fun i hi => (q3 i hi).imp (h5 i) id⟩
/-- The slab alone, the reference's beside it. -/
def JPN (w : World) (gd gm : Nat) (sd : SlabS) (cs : Array Value) (W : World) : Prop :=
  ∃ Z, SlabAt W Z gd sd ∧ (∀ i, Z i → w.heap.size ≤ i) ∧ ¬ Z gm ∧ w.heap.size ≤ gm ∧ Blk W gm 39 cs ∧ Below w.heap.size w W
theorem JPN.below {cs : Array Value} (h : JPN w gd gm sd cs W) (hb : Below W.heap.size W W') : JPN w gd gm sd cs W' := by
  obtain ⟨Z, h1, h2, h3, h4, h5, h6⟩ := h
  exact ⟨Z, h1.below hb, h2, h3, h4, h5.below hb h5.lt, h6.trans (hb.mono h6.size)⟩
theorem JPN.set {cs : Array Value} (h : JPN w gd gm sd cs W) (cs' : Array Value) : JPN w gd gm sd cs' (W.setRow gm cs') := by
  obtain ⟨Z, h1, h2, h3, h4, h5, h6⟩ := h
  exact ⟨Z, h1.turn (turn_setRowR W gm cs') (fun i hi e => h3 (e ▸ hi)), h2, h3, h4, h5.setRow _, below_setRow h6 h4 _⟩
theorem JPN.old {cs : Array Value} (h : JPN w gd gm sd cs W) : Below w.heap.size w W := by
  obtain ⟨Z, h1, h2, h3, h4, h5, h6⟩ := h
  exact h6
theorem JPC.shut {sd' : SlabS} {ce : Int} (h : JPC w T g gd gm v s sd r rd W) (hT : Tables w) (ho : openJ sd = (none, sd', ce)) :
    Calls Tryd.prog 13 #[.pointer (some ⟨gd, 0, none⟩)] W fun e w' => e = .returned (.tuple #[.pointer none, .int .i64 ce]) ∧ JPN w gd gm sd' (arr 38 (rjF rd v r.last r.down)) w' := by
  obtain ⟨Y, Z, h1, h2, h3, h4, h5⟩ := js_new h.1
  have ho' := open_any Z gd sd W (hT.below h.old) h2
  rw [ho] at ho'
  refine ho'.mono ?_
  rintro e w' ⟨Z', p, rfl, q1, q2, q3, rfl⟩
  obtain ⟨r1, r2, r3, r4, r5, r6, r7, r8⟩ := h
  have hs := r8.size
  exact ⟨rfl, Z', q1, fun i hi => (q3 i hi).elim (fun q => r2 i (h5 i q)) fun q => by omega, fun hi => (q3 gm hi).elim (fun q => r3 (h5 gm q)) fun q => by have := r5.lt; omega, r4, q2.blk r5 fun q => r3 (h5 gm q), below_turn r8 (Nat.le_refl _) q2 fun i hi => r2 i (h5 i hi)⟩
/-- The slab's bytes, as a string. -/
theorem slab_text {Z : Nat → Prop} (h : SlabAt W Z gd sd) : Calls Tryd.prog 23 #[.pointer (some ⟨gd, 0, none⟩)] W fun e w' => ∃ A n c, e = .returned (.slice A n c) ∧ (convert 42 9 (.slice A n c)).run Tryd.prog w' = .ok (.string ⟨sd.bs.toArray⟩) w' ∧ Below W.heap.size W w' := by
  have hok : sd.Ok := by
    obtain ⟨_, _, _, _, _, _, q⟩ := h
    exact q
  refine (slabBytes_any Z gd sd W h).mono ?_
  rintro e w' ⟨A, c, rfl, ho, hb⟩
  have q1 := hok.fits
  have q2 := hok.room
  exact ⟨A, _, c, rfl, str_rd (rdB_own ho rfl (by omega)), hb⟩
end
theorem readJ_len2 (N : Nat) : ∀ (a : Nat → UInt8) (b : List UInt8), b.length ≤ N → (readJ a b).1.length + (readJ a b).2.2.1.length ≤ b.length := by
  induction N with
  | zero =>
    intro a b h
    rw [readJ_no (fun hc => by have := codeJ_zero hc; omega)]
    simp
  | succ N ih =>
    intro a b h
    by_cases hc : codeJ a b = 0
    · have := codeJ_zero hc
      rw [readJ_yes hc]
      have := ih (withD a (dataJ b)) (b.drop (35 + sizeJ b)) (by rw [List.length_drop]; omega)
      rw [List.length_drop] at this
      rw [List.length_cons]
      dsimp only
      omega
    · rw [readJ_no hc]
      simp
/-- What a step keeps: the room, and that there are no more records than bytes. -/
def KeepJ (s : JrnS) (sd : SlabS) : Prop := sd.room ≤ 3000 ∧ s.recs.length ≤ sd.bs.length
theorem cut_keep (sd : SlabS) (k : Int) : (sd.cut k).1.room = sd.room := by
  unfold SlabS.cut
  split
  · rfl
  · split <;> rfl
theorem cut_zero {sd : SlabS} {k : Nat} (h : (sd.cut (k : Int)).2 = 0) : (sd.cut (k : Int)).1.bs = sd.bs.take k := by
  unfold SlabS.cut at h ⊢
  split at h
  · exact absurd h (show ¬ (1 : Int) = 0 by decide)
  · split at h
    · exact absurd h (show ¬ (90 : Int) = 0 by decide)
    · rename_i h1 h2
      rw [if_neg h1, if_neg h2]
      simp
theorem open_keep {sd sd' : SlabS} {s : JrnS} {c : Int} (h : openJ sd = (some s, sd', c)) (hr : sd.room ≤ 3000) : KeepJ s sd' ∧ c = 0 := by
  have hl := readJ_len2 _ zeroD sd.bs (Nat.le_refl _)
  unfold openJ at h
  split at h
  · cases h
  · split at h
    · injection h with h1 h2
      injection h1 with h1
      injection h2 with h2 h3
      subst h1 h2 h3
      exact ⟨⟨hr, by show (readJ zeroD sd.bs).1.length ≤ sd.bs.length; omega⟩, rfl⟩
    · split at h
      · rename_i hz
        injection h with h1 h2
        injection h1 with h1
        injection h2 with h2 h3
        subst h1 h2 h3
        refine ⟨⟨by rw [cut_keep]; exact hr, ?_⟩, rfl⟩
        rw [cut_zero hz, List.length_take]
        show (readJ zeroD sd.bs).1.length ≤ _
        omega
      · cases h
theorem open_none {sd sd' : SlabS} {c : Int} (h : openJ sd = (none, sd', c)) : sd' = sd ∧ c ≠ 0 := by
  unfold openJ at h
  split at h
  · injection h with h1 h2
    injection h2 with h2 h3
    exact ⟨h2.symm, by rw [← h3]; decide⟩
  · split at h
    · cases h
    · split at h
      · cases h
      · rename_i hz
        injection h with h1 h2
        injection h2 with h2 h3
        refine ⟨?_, by rw [← h3]; exact hz⟩
        rw [← h2]
        unfold SlabS.cut at hz ⊢
        split
        · rfl
        · rename_i h4
          split
          · rfl
          · rename_i h5
            rw [if_neg h4, if_neg h5] at hz
            exact absurd rfl hz
theorem app_keep (sd : SlabS) (cs : List UInt8) : (sd.app cs).1.room = sd.room ∧ sd.bs.length ≤ (sd.app cs).1.bs.length ∧ ((sd.app cs).2 = 0 → (sd.app cs).1.bs.length = sd.bs.length + cs.length) := by
  unfold SlabS.app
  split
  · exact ⟨rfl, Nat.le_refl _, fun h => absurd h (show ¬ (3 : Int) = 0 by decide)⟩
  · split
    · exact ⟨rfl, Nat.le_refl _, fun h => absurd h (show ¬ (90 : Int) = 0 by decide)⟩
    · exact ⟨rfl, by show sd.bs.length ≤ (sd.bs ++ cs).length; rw [List.length_append]; omega, fun _ => by show (sd.bs ++ cs).length = _; rw [List.length_append]⟩
theorem sync_keep (sd : SlabS) : sd.sync.1.room = sd.room ∧ sd.sync.1.bs = sd.bs := by
  unfold SlabS.sync
  split <;> exact ⟨rfl, rfl⟩
theorem lay_keep (sd : SlabS) (cs : List UInt8) : (sd.lay cs).1.room = sd.room ∧ sd.bs.length ≤ (sd.lay cs).1.bs.length ∧ ((sd.lay cs).2 = 0 → (sd.lay cs).1.bs.length = sd.bs.length + cs.length) := by
  have h1 := app_keep sd cs
  have h2 := sync_keep (sd.app cs).1
  unfold SlabS.lay
  split
  · rename_i h0
    exact ⟨h2.1.trans h1.1, by rw [h2.2]; exact h1.2.1, fun _ => by rw [h2.2]; exact h1.2.2 h0⟩
  · exact h1
theorem write_keep {s : JrnS} {sd : SlabS} (d : List UInt8) (h : KeepJ s sd) : KeepJ (writeJ s sd d).1 (writeJ s sd d).2.1 := by
  have h1 := lay_keep sd (recB s.last d)
  rw [recB_length] at h1
  have h2 := h.1
  have h3 := h.2
  unfold writeJ
  split
  · exact h
  · split
    · exact h
    · split
      · rename_i h0
        refine ⟨by show (sd.lay (recB s.last d)).1.room ≤ 3000; omega, ?_⟩
        have := h1.2.2 h0
        show (s.recs ++ [d]).length ≤ (sd.lay (recB s.last d)).1.bs.length
        rw [List.length_append, List.length_singleton]
        omega
      · split
        · exact ⟨by show (sd.lay (recB s.last d)).1.room ≤ 3000; omega, by show s.recs.length ≤ (sd.lay (recB s.last d)).1.bs.length; omega⟩
        · exact ⟨by show (sd.lay (recB s.last d)).1.room ≤ 3000; omega, by show s.recs.length ≤ (sd.lay (recB s.last d)).1.bs.length; omega⟩
/-- What the switch leaves. -/
def PlayK (w wx : World) (gd gm : Nat) (j e c : Value) : Prop := ∃ (kk : Int) (T : Nat → Prop) (g : Nat) (v : Value) (s : JrnS) (sd : SlabS), j = .pointer (some ⟨g, 0, none⟩) ∧ e = .int .i64 kk ∧ c = .int .i64 kk ∧ JPC w T g gd gm v s sd s sd wx ∧ KeepJ s sd
end Go.Proofs.YtgpbpdjamimbfaaDoor
namespace Go.Proofs.YtgpbpdjamimbfaaDoor
open Go Go.RowKit Go.Shelf

theorem oper_convP {P : Program} {o : Oper} {a : Act} {w : World} {K : Act → World → Prop} {Q : Exit → Act → World → Prop} (f t : TypeId) (x : Operand) (ho : o.op = .convert f t x) (vx v : Value) (hx : a.eval x = vx) (hl : (convert f t vx).run P w = .ok v w) (h : K (a.put o.dst v) w) : o.wp P a w K Q := by
  subst hx
  unfold Oper.wp
  simp [execOp, ho, hl, Result.andThen, Oper.upon]
  exact h
/-- Within a round: the step in block q beside it all. -/
def JPQ (w : World) (g gd gm : Nat) (v : Value) (s : JrnS) (sd : SlabS) (r : JrnS) (rd : SlabS) (q : Nat) (ca : Array Value) (W : World) : Prop :=
  ∃ T, JPC w T g gd gm v s sd r rd W ∧ Blk W q 44 ca ∧ ¬ T q ∧ gm ≠ q
section
variable {w W W' : World} {g gd gm q : Nat} {v : Value} {s : JrnS} {sd : SlabS} {r : JrnS} {rd : SlabS} {ca : Array Value}
theorem JPQ.call {f : FuncId} {args : Array Value} {x : Value} {s' : JrnS} {sd' : SlabS} (h : JPQ w g gd gm v s sd r rd q ca W) (hc : ∀ T, JS W T g gd s sd → (∀ i, T i → w.heap.size ≤ i) → Below w.heap.size w W → Calls Tryd.prog f args W fun e w' => e = .returned x ∧ JOut T g gd s' sd' W w') :
    Calls Tryd.prog f args W fun e w' => e = .returned x ∧ JPQ w g gd gm v s' sd' r rd q ca w' := by
  obtain ⟨T, h1, h2, h3, h4⟩ := h
  refine (hc T h1.1 h1.2.1 h1.old).mono ?_
  rintro e w' ⟨he, T', q1, q2, q3⟩
  obtain ⟨T2, k1, k2, k3⟩ := h1.to q1 q2 q3
  exact ⟨he, T2, k1, k2.blk h2 h3, fun hq => (k3 q hq).elim h3 fun hz => by have := h2.lt; omega, h4⟩
theorem JPQ.below (h : JPQ w g gd gm v s sd r rd q ca W) (hb : Below W.heap.size W W') : JPQ w g gd gm v s sd r rd q ca W' := by
  obtain ⟨T, h1, h2, h3, h4⟩ := h
  exact ⟨T, h1.below hb, h2.below hb h2.lt, h3, h4⟩
theorem JPQ.ref {v' : Value} {r' : JrnS} {rd' : SlabS} (h : JPQ w g gd gm v s sd r rd q ca W) (hb : Below W.heap.size W W') (ho : W'.ownsRow w.heap.size 9 1 v' r'.recs.length (strC r'.recs).flatten) (hv : v' = v ∨ ∀ i, v'.ownBlock = some i → W.heap.size ≤ i) :
    JPQ w g gd gm v' s sd r' rd' q ca (W'.setRow gm (arr 38 (rjF rd' v' r'.last r'.down))) := by
  obtain ⟨T, h1, h2, h3, h4⟩ := h
  exact ⟨T, h1.ref hb ho hv, (h2.below hb h2.lt).setRow_far (Ne.symm h4) _, h3, h4⟩
theorem JPQ.part (rd' : SlabS) (h : JPQ w g gd gm v s sd r rd q ca W) : JPQ w g gd gm v s sd r rd' q ca (W.setRow gm (arr 38 (rjF rd' v r.last r.down))) := by
  obtain ⟨T, h1, h2, h3, h4⟩ := h
  exact ⟨T, h1.part, h2.setRow_far (Ne.symm h4) _, h3, h4⟩
theorem JPQ.old (h : JPQ w g gd gm v s sd r rd q ca W) : Below w.heap.size w W := by
  obtain ⟨T, h1, _⟩ := h
  exact h1.old
theorem JPQ.ok (h : JPQ w g gd gm v s sd r rd q ca W) : sd.Ok := by
  obtain ⟨T, h1, _⟩ := h
  exact h1.ok
theorem JPQ.blk (h : JPQ w g gd gm v s sd r rd q ca W) : Blk W gm 39 (arr 38 (rjF rd v r.last r.down)) := by
  obtain ⟨T, h1, _⟩ := h
  exact h1.2.2.2.2.1
theorem JPQ.row (h : JPQ w g gd gm v s sd r rd q ca W) : W.ownsRow w.heap.size 9 1 v r.recs.length (strC r.recs).flatten ∧ w.heap.size ≤ W.heap.size := by
  obtain ⟨T, h1, _⟩ := h
  exact ⟨h1.2.2.2.2.2.1, h1.old.size⟩
theorem JPQ.step {a b c d : Value} (h : JPQ w g gd gm v s sd r rd q #[a, b, c, d] W) : W.cell? ⟨q, 0, none⟩ = some a ∧ W.cell? ⟨q, 1, none⟩ = some b ∧ W.cell? ⟨q, 2, none⟩ = some c ∧ W.cell? ⟨q, 3, none⟩ = some d := by
  obtain ⟨T, h1, h2, _⟩ := h
  exact ⟨h2.cell 0, h2.cell 1, h2.cell 2, h2.cell 3⟩
theorem JPQ.out (h : JPQ w g gd gm v s sd r rd q ca W) : ∃ T, JPC w T g gd gm v s sd r rd W := by
  obtain ⟨T, h1, _⟩ := h
  exact ⟨T, h1⟩
theorem jpq_write {A : Option Addr} {n c : Nat} {d : List UInt8} {s' : JrnS} {sd' : SlabS} {kk : Int} (h : JPQ w g gd gm v s sd r rd q ca W) (hT : Tables w) (hn : s.recs.length < 100000000) (hr : RdB W (fun i => i < w.heap.size) (.slice A n c) d) (he : writeJ s sd d = (s', sd', kk)) :
    Calls Tryd.prog 16 #[.pointer (some ⟨g, 0, none⟩), .slice A n c] W fun e w' => e = .returned (.int .i64 kk) ∧ JPQ w g gd gm v s' sd' r rd q ca w' :=
  h.call fun T hj hlo hold => by
    have := js_write A n c d (hT.below hold) hj hn (hr.mono fun i hi => ⟨Nat.lt_of_lt_of_le hi hold.size, fun hq => by have := hlo i hq; omega⟩)
    rw [he] at this
    exact this
theorem jpq_break {n : Int} (h : JPQ w g gd gm v s sd r rd q ca W) (h1 : -9223372036854775808 ≤ n) (h2 : n ≤ 9223372036854775807) :
    Calls Tryd.prog 17 #[.pointer (some ⟨gd, 0, none⟩), .int .i64 n] W fun e w' => e = .returned (.tuple #[]) ∧ JPQ w g gd gm v s (sd.brk n) r rd q ca w' :=
  h.call fun _ hj _ _ => js_left hj fun Z hZ => slabBreak_any Z gd sd n h1 h2 W hZ
theorem jpq_crash {n : Int} (h : JPQ w g gd gm v s sd r rd q ca W) :
    Calls Tryd.prog 19 #[.pointer (some ⟨gd, 0, none⟩), .int .i64 n] W fun e w' => e = .returned (.tuple #[]) ∧ JPQ w g gd gm v s (sd.crash n) r rd q ca w' :=
  h.call fun _ hj _ _ => js_left hj fun Z hZ => slabCrash_any Z gd sd n W hZ
theorem jpq_spoil {n : Int} {x : UInt8} (h : JPQ w g gd gm v s sd r rd q ca W) :
    Calls Tryd.prog 21 #[.pointer (some ⟨gd, 0, none⟩), .int .i64 n, .int .u8 (x.toNat : Int)] W fun e w' => e = .returned (.int .i64 (sd.spoil n x).2) ∧ JPQ w g gd gm v s (sd.spoil n x).1 r rd q ca w' :=
  h.call fun _ hj _ _ => js_left hj fun Z hZ => slabSpoil_any Z gd sd n x W hZ
theorem jpc_text {T : Nat → Prop} (h : JPC w T g gd gm v s sd r rd W) : Calls Tryd.prog 23 #[.pointer (some ⟨gd, 0, none⟩)] W fun e w' => ∃ A n c, e = .returned (.slice A n c) ∧ (convert 42 9 (.slice A n c)).run Tryd.prog w' = .ok (.string ⟨sd.bs.toArray⟩) w' ∧ Below W.heap.size W w' := by
  obtain ⟨⟨Y, Z, _, h2, _⟩, _⟩ := h
  exact slab_text h2
theorem jpn_text {cs : Array Value} (h : JPN w gd gm sd cs W) : Calls Tryd.prog 23 #[.pointer (some ⟨gd, 0, none⟩)] W fun e w' => ∃ A n c, e = .returned (.slice A n c) ∧ (convert 42 9 (.slice A n c)).run Tryd.prog w' = .ok (.string ⟨sd.bs.toArray⟩) w' ∧ Below W.heap.size W w' := by
  obtain ⟨Z, h2, _⟩ := h
  exact slab_text h2
theorem JPN.blk {cs : Array Value} (h : JPN w gd gm sd cs W) : Blk W gm 39 cs := by
  obtain ⟨Z, h1, h2, h3, h4, h5, h6⟩ := h
  exact h5
end
theorem open_down {sd sd' : SlabS} {s : JrnS} {c : Int} (h : openJ sd = (some s, sd', c)) : s.down = false := by
  unfold openJ at h
  split at h
  · cases h
  · split at h
    · injection h with h1 _
      injection h1 with h1
      rw [← h1]
    · split at h
      · injection h with h1 _
        injection h1 with h1
        rw [← h1]
      · cases h
theorem crash_room (sd : SlabS) (n : Int) : (sd.crash n).room = sd.room := rfl
theorem spoil_room (sd : SlabS) (n : Int) (x : UInt8) : (sd.spoil n x).1.room = sd.room := by
  unfold SlabS.spoil
  split <;> rfl
/-- The start. -/
theorem jp_start {w W3 W4 : World} {T : Nat → Prop} {R g gd : Nat} (h1 : JS W3 T g gd ⟨[], zeroD, false⟩ ⟨R, [], 0, -1⟩) (hT : ∀ i, T i → w.heap.size ≤ i) (hb : Below w.heap.size w W3) (hb4 : Below W3.heap.size W3 W4) {v : Value} (hv : W4.ownsRow W3.heap.size 9 1 v 0 (strC []).flatten) :
    JPC w T g gd W4.heap.size v ⟨[], zeroD, false⟩ ⟨R, [], 0, -1⟩ ⟨[], zeroD, false⟩ ⟨R, [], 0, -1⟩ (W4.alloc (.cells (arr 38 (rjF ⟨R, [], 0, -1⟩ v zeroD false)) 39)) := by
  have ha : Below W4.heap.size W4 (W4.alloc (.cells (arr 38 (rjF ⟨R, [], 0, -1⟩ v zeroD false)) 39)) := (Below.refl _ _).alloc (Nat.le_refl _) _
  have hs := hb.size
  have hs4 := hb4.size
  have hlt := h1.lt
  have hv4 := hv.lt
  exact ⟨(h1.below hb4).below ha, hT, fun h => by have := hlt _ h; omega, by omega, Blk.newAt _ _ rfl rfl, ownsRow_kept (own_base hv hs) ha, fun i hi ht => by have := hlt i ht; have := (hv4 i hi).1; omega, hb.trans ((hb4.mono hs).trans (ha.mono (by omega)))⟩
end Go.Proofs.YtgpbpdjamimbfaaDoor
