/-
  pack.Write: for every message, in whatever memory: its bytes in new memory, or why it can't be written.
-/
import Derived.Test.YtkbdkeclbokhdaaDoorPackFields
import Derived.Test.YtkbdkeclbokhdaaDoorPackGrow
namespace Go.Proofs.YtkbdkeclbokhdaaDoor
open Go Go.RowKit PackMath
attribute [local go_sem] Oper.semAt_some

section
variable {F : Fence} {n : Nat} {P : Program} {ops : Array Oper} {rest : List Oper} {o : Oper} {a : Act} {w : World} {Q : Exit → Act → World → Prop}
theorem wpListIn_app (hF : ∀ f, F.fn f) (hgd : o.guard = none) (s x : Operand) (t t' : TypeId) (ho : o.op = .call { callee := .builtin .append, args := #[s, x], argTypes := #[t, t'] })
    (vs vx : Value) (hs : a.eval s = vs) (hx : a.eval x = vx) (v : Value) (w' : World) (hrun : (Builtin.append_ #[t, t'] o.type #[vs, vx]).run P w = .ok v w')
    (h : wpListIn F n P ops Q rest (a.put o.dst v) w') : wpListIn F n P ops Q (o :: rest) a w := by
  refine wpListIn_plain hgd fun K hK => ?_
  unfold Oper.wpIn
  refine ⟨fun f _ => hF f, ?_⟩
  rw [Oper.semAt_plain F _ _ (by rw [ho]; intro c hc; cases hc)]
  simp [execOp, ho, resolve, invoke, builtin, hs, hx, hrun, Result.andThen]
  exact hK _ _ h
end
theorem lit29 (f : Nat → Value) : arr 29 f = #[f 0, f 1, f 2, f 3, f 4, f 5, f 6, f 7, f 8, f 9, f 10, f 11, f 12, f 13, f 14, f 15, f 16, f 17, f 18, f 19, f 20, f 21, f 22, f 23, f 24, f 25, f 26, f 27, f 28] := by
  rw [arr_list, show List.range 29 = [0, 1, 2, 3, 4, 5, 6, 7, 8, 9, 10, 11, 12, 13, 14, 15, 16, 17, 18, 19, 20, 21, 22, 23, 24, 25, 26, 27, 28] from by kernel_rfl]
  rfl
theorem body_len (k : Nat) (ps : List (List UInt8)) (m : Nat) (h : ∀ p ∈ ps, p.length ≤ m) : (body k ps).length ≤ ps.length * (m + 4) := by
  induction ps generalizing k with
  | nil => simp [body]
  | cons p ps ih =>
    rw [body, List.length_append, List.length_cons, Nat.succ_mul]
    have h1 := ih (k + 1) fun q hq => h q (by simp [hq])
    have h2 := h p (by simp)
    have h3 : (if p = [] then ([] : List UInt8) else UInt8.ofNat k :: run p).length ≤ m + 4 := by
      by_cases hp : p = []
      · rw [if_pos hp]; simp
      · rw [if_neg hp, List.length_cons, run, List.length_append]
        have : (len3P p.length).length = 3 := rfl
        omega
    omega
theorem write_len {m : M} (h : Ok m) : (writeM m).length ≤ 1073741824 := by
  have := body_len 1 (parts m) 16777216 fun p hp => by have := parts_short h p hp; omega
  rw [parts_length] at this
  rw [writeM, List.length_cons]
  omega
/-- What stands in the bytes when some fields are done. -/
def soFar (k : UInt8) (xs : List (Nat × List UInt8)) : List UInt8 := k :: xs.flatMap fun x => UInt8.ofNat x.1 :: run x.2
theorem soFar_snoc (k : UInt8) (xs : List (Nat × List UInt8)) (x : Nat × List UInt8) : soFar k (xs ++ [x]) = soFar k xs ++ [UInt8.ofNat x.1] ++ run x.2 := by simp [soFar]
theorem soFar_all (m : M) : soFar (UInt8.ofNat m.kind) (fld 1 (parts m)) = writeM m := by rw [soFar, ← body_fld]; rfl
theorem soFar_le {k : UInt8} {xs ys : List (Nat × List UInt8)} (h : xs <+: ys) : (soFar k xs).length ≤ (soFar k ys).length := by
  obtain ⟨t, rfl⟩ := h
  simp [soFar]
theorem ownsRow_block {B : Nat} {e : TypeId} {k : Nat} {v : Value} {n : Nat} {xs : List Value} {w w' : World} (h : w.ownsRow B e k v n xs) (hb : ∀ g, v.ownBlock = some g → w'.heap[g]? = w.heap[g]?) : w'.ownsRow B e k v n xs := by
  refine ⟨h.1, ?_⟩
  rcases h.2 with h0 | ⟨g, cap, cur, h1, h2, h3, h4⟩
  · exact .inl h0
  · exact .inr ⟨g, cap, cur, h1, h2, (hb g (by rw [h1]; rfl)).trans h3, h4⟩
theorem ownsRow_cells {B : Nat} {e : TypeId} {g n cap : Nat} {xs : List Value} {w : World} (h : w.ownsRow B e 1 (.slice (some ⟨g, 0, none⟩) n cap) n xs) : ∃ cs, w.heap[g]? = some (.cells cs e (0, 0)) := by
  rcases h.2 with ⟨h0, _⟩ | ⟨g', cap', cur, h1, h2, h3, h4⟩
  · cases h0
  · injection h1 with e1
    injection e1 with e1
    injection e1 with e1
    subst e1
    exact ⟨_, h3⟩
theorem keepsFrom_grown {B g : Nat} {t : TypeId} {cs : Array Value} {W W' : World} (h : W.grownBy W' (some g)) (hg : W.heap[g]? = some (.cells cs t (0, 0))) : KeepsFrom B W W' :=
  ⟨h.size, fun k o _ hk ho => (h.block k (Array.getElem?_eq_some_iff.1 hk).1 (fun e => by
    injection e with e
    subst e
    rw [hg] at hk
    cases hk
    cases ho)).trans hk⟩
theorem keep_grown {o : Nat → Prop} {g : Nat} {W W' : World} (h : W.grownBy W' (some g)) (ho : o g) : Keep o W W' :=
  ⟨h.size, fun b x hb _ hn => (h.block b (Array.getElem?_eq_some_iff.1 hb).1 (fun e => by
    injection e with e
    subst e
    exact hn ho)).trans hb⟩
theorem fld_tag (k : Nat) (ps : List (List UInt8)) : ∀ p ∈ fld k ps, k ≤ p.1 ∧ p.1 < k + ps.length ∧ p.2 ∈ ps := by
  induction ps generalizing k with
  | nil => intro p hp; cases hp
  | cons q ps ih =>
    intro p hp
    rw [fld, List.mem_append] at hp
    rcases hp with hp | hp
    · by_cases h : q = []
      · rw [if_pos h] at hp; cases hp
      · rw [if_neg h] at hp
        obtain rfl : p = (k, q) := by simpa using hp
        exact ⟨Nat.le_refl _, by simp, by simp⟩
    · obtain ⟨h1, h2, h3⟩ := ih (k + 1) p hp
      exact ⟨by omega, by simp; omega, by simp [h3]⟩
theorem cell_putObj {W : World} {l : Nat} {b : Obj} (hl : W.heap[l]? = some b) (hb : b.isCells = false) (b' : Obj) {a : Addr} {x : Value} (h : W.cell? a = some x) : (W.putObj l b').cell? a = some x := by
  obtain ⟨o, ho, hc⟩ := cells_of_cell h
  have hne : a.block ≠ l := fun e => by
    rw [e, hl] at ho
    cases ho
    rw [hb] at hc
    cases hc
  exact (World.cell?_of_block (World.putObj_heap_other hne)).trans h
theorem ownsRow_putObj {B : Nat} {e : TypeId} {g n cap : Nat} {xs : List Value} {W : World} (h : W.ownsRow B e 1 (.slice (some ⟨g, 0, none⟩) n cap) n xs) {l : Nat} {b : Obj} (hl : W.heap[l]? = some b) (hb : b.isCells = false) (b' : Obj) : (W.putObj l b').ownsRow B e 1 (.slice (some ⟨g, 0, none⟩) n cap) n xs := by
  obtain ⟨cs, hc⟩ := ownsRow_cells h
  refine ownsRow_block h fun x hx => ?_
  simp only [Value.ownBlock, Option.some.injEq] at hx
  subst hx
  exact World.putObj_heap_other fun e => by
    subst e
    rw [hl] at hc
    cases hc
    cases hb
/-- The loop's invariant: the bytes so far in a row of the call's own, the row in its variable. -/
def Inv (w : World) (B gb : Nat) (k : UInt8) (pre : List (Nat × List UInt8)) (o : Nat → Prop) (W : World) : Prop :=
  ∃ g n cap, Blk W gb 42 #[.slice (some ⟨g, 0, none⟩) n cap] ∧ W.ownsRow B 5 1 (.slice (some ⟨g, 0, none⟩) n cap) n ((soFar k pre).map bv) ∧ n = (soFar k pre).length ∧ o = (fun b => b = gb ∨ b = g) ∧ g ≠ gb ∧ B ≤ g ∧ B ≤ gb ∧ Below B w W
theorem inv_ab (w : World) (B gb : Nat) (k : UInt8) (D : Nat) (hD : B ≤ D) (_hB : B ≤ w.heap.size) : AbO D (Inv w B gb k) := by
  refine ⟨fun pre o W W' h hs => ?_, fun pre o W h b hb => ?_⟩
  · obtain ⟨g, n, cap, h1, h2, h3, rfl, h5, h6, h7, h8⟩ := h
    obtain ⟨cs, hc⟩ := ownsRow_cells h2
    have hgl := (Array.getElem?_eq_some_iff.1 hc).1
    have hg : W'.heap[g]? = W.heap[g]? := hs.block g (.inr (.inr rfl)) hgl
    refine ⟨g, n, cap, (hs.block gb (.inr (.inl rfl)) h1.lt).trans h1, ownsRow_block h2 (fun x hx => ?_), h3, rfl, h5, h6, h7, h8.trans ⟨hs.os, hs.tape, hs.output, hs.size, fun b hb => hs.block b (.inl (by omega)) (by have := h8.size; omega)⟩⟩
    simp only [Value.ownBlock, Option.some.injEq] at hx
    subst hx
    exact hg
  · obtain ⟨g, n, cap, h1, h2, h3, rfl, h5, h6, h7, h8⟩ := h
    rcases hb with rfl | rfl
    · exact ⟨_, h1, rfl⟩
    · obtain ⟨cs, hc⟩ := ownsRow_cells h2
      exact ⟨_, hc, rfl⟩
set_option maxRecDepth 100000 in
set_option maxHeartbeats 1000000 in
theorem fieldsOf_any (M : Array Value) (w : World) : CallsIn Fence.wide 0 Tryd.prog 50 #[.agg M] w fun e w' => e = .returned (.func (.func 62) #[] #[.pointer (some ⟨w.heap.size, 0, none⟩)]) ∧ w' = w.alloc (.cells M 69) := by
  refine callsIn_of_wp Tryd.func50 rfl trivial ?_ rfl
  simp only [Tryd.ntmps50, List.size_toArray, List.length_cons, List.length_nil, Nat.reduceAdd, Nat.reduceSub, Array.replicate_succ, Array.replicate_zero, List.push_toArray, List.append_toArray, List.nil_append, List.cons_append]
  gi_wp2
  go_ret
  exact ⟨rfl, rfl⟩
set_option maxRecDepth 100000 in
set_option maxHeartbeats 2000000 in
theorem write_no (r : Raw) (hf : ¬ r.Fit) (d i l : Value) (w : World) (hr : RdR w (fun b => b < w.heap.size) r d i l) :
    Calls Tryd.prog 30 #[.agg (msgA r d i l)] w fun e w' => e = .returned (.tuple #[.slice none 0 0, .int .i64 (r.check : Int)]) ∧ Below w.heap.size w w' := by
  have hb1 : Below w.heap.size w (w.alloc (.cells (msgA r d i l) 69)) := (Below.refl _ _).alloc (Nat.le_refl _) _
  have hx : Blk (w.alloc (.cells (msgA r d i l) 69)) w.heap.size 69 (msgA r d i l) := Blk.new _ _ _
  have hc := check_any r d i l (w.alloc (.cells (msgA r d i l) 69)) ((hr.below hb1).mono fun b hb => by simp; omega)
  have hs : (msgA r d i l).size = 41 := arr_size _ _
  have h0 : ¬ r.check = 0 := fun h => hf (r.fit_iff.1 h)
  obtain ⟨M, hM⟩ : ∃ M, msgA r d i l = M := ⟨_, rfl⟩
  rw [hM] at hc hx hs hb1 ⊢
  obtain ⟨k, hk⟩ : ∃ k, r.check = k := ⟨_, rfl⟩
  rw [hk] at hc h0 ⊢
  have d0 : ((k : Int) == 0) = false := by simpa using h0
  have d1 : ((k : Int) != 0) = true := by simpa using h0
  have HC := Lib.hid hc
  have HB := Lib.hid hb1
  have HS := Lib.hid hs
  clear hc hb1 hs hM hk hr hf h0
  go_enter Tryd.func30, Tryd.ntmps30
  go_wp2_with (first
    | (refine wpList_load_row rfl 69 _ rfl w.heap.size rfl 69 M (0, 0) _ hx Tryd.underlying69 rfl (by rw [HS.out]; kernel_rfl) ?_)
    | (go_at_call 49; refine HC.out.mono ?_; rintro e w1 ⟨rfl, hb1⟩))
  go_ret2
  exact ⟨rfl, HB.out.trans (hb1.mono (by simp))⟩
set_option maxRecDepth 100000 in
set_option maxHeartbeats 4000000 in
theorem write_ok (r : Raw) (hf : r.Fit) (d i l : Value) (w : World) (hr : RdR w (fun b => b < w.heap.size) r d i l) :
    CallsIn Fence.wide 0 Tryd.prog 30 #[.agg (msgA r d i l)] w fun e w' => ∃ g n cap, e = .returned (.tuple #[.slice (some ⟨g, 0, none⟩) n cap, .int .i64 0]) ∧ n = (writeM r.m).length ∧ w'.ownsRow w.heap.size 5 1 (.slice (some ⟨g, 0, none⟩) n cap) n ((writeM r.m).map bv) ∧ Below w.heap.size w w' := by
  have hb1 : Below w.heap.size w (w.alloc (.cells (msgA r d i l) 69)) := (Below.refl _ _).alloc (Nat.le_refl _) _
  have hx : Blk (w.alloc (.cells (msgA r d i l) 69)) w.heap.size 69 (msgA r d i l) := Blk.new _ _ _
  have hc := check_any r d i l (w.alloc (.cells (msgA r d i l) 69)) ((hr.below hb1).mono fun b hb => by simp; omega)
  rw [r.fit_iff.2 hf] at hc
  have hs : (msgA r d i l).size = 41 := arr_size _ _
  have hk0 : Hid (∀ W, Blk W w.heap.size 69 (msgA r d i l) → W.cell? ⟨w.heap.size, 0, none⟩ = some (.int .i64 r.kind)) := Lib.hid fun W h => (msg_cells h).1
  have HF := Lib.hid hf
  have HSEQ : Hid (∀ (g : Nat) (W : World), Below w.heap.size w W → Blk W g 69 (msgA r d i l) → SeqM Tryd.prog 62 #[.pointer (some ⟨g, 0, none⟩)] EncF w.heap.size (fld 1 (parts r.m)) W) :=
    Lib.hid fun g W hb hx => fields_seq g w.heap.size r hf d i l W hb.size (hr.below hb) hx
  obtain ⟨M, hM⟩ : ∃ M, msgA r d i l = M := ⟨_, rfl⟩
  rw [hM] at hc hx hs hb1 hk0 HSEQ ⊢
  have HC := Lib.hid hc
  have HB := Lib.hid hb1
  have HS := Lib.hid hs
  have hkr : Hid (IntKind.u8.wrap r.kind = ((UInt8.ofNat r.m.kind).toNat : Int)) := Lib.hid (by
    have h := hf.kind
    have : r.m.kind = r.kind.toNat := rfl
    rw [IntKind.wrap_u8', UInt8.toNat_ofNat', this]
    omega)
  have h31 := hf.kind
  have hkb : r.kind % 256 = ((UInt8.ofNat r.m.kind).toNat : Int) := by
    have : r.m.kind = r.kind.toNat := rfl
    rw [UInt8.toNat_ofNat', this]
    omega
  have hkb' : r.kind = ((UInt8.ofNat r.m.kind).toNat : Int) := by
    have : r.m.kind = r.kind.toNat := rfl
    rw [UInt8.toNat_ofNat', this]
    omega
  have HKB := Lib.hid hkb'
  have k0 := hk0.out _ hx
  clear hc hb1 hs hM hr hf hkb hkb'
  refine callsIn_of_wp_marks Tryd.func30 rfl trivial ?_ rfl
  simp only [Tryd.ntmps30, List.size_toArray, List.length_cons, List.length_nil, Nat.reduceAdd, Nat.reduceSub, Array.replicate_succ, Array.replicate_zero, List.push_toArray, List.append_toArray, List.nil_append, List.cons_append]
  gi_wp2_with (first
    | (refine wpListIn_load_arr (fun _ => trivial) rfl 69 _ rfl w.heap.size rfl 69 M _ hx Tryd.underlying69 rfl (by rw [HS.out]; kernel_rfl) ?_)
    | (refine ⟨trivial, rfl, ?_⟩; gi_at_call 49; refine (callsIn_wide.2 HC.out).mono ?_; rintro e w2 ⟨rfl, hb2⟩; have hx2 := hx.below hb2 (by simp); have k2 := hk0.out _ hx2)
    | (refine wpListIn_load_arr (fun _ => trivial) rfl 69 _ rfl w.heap.size rfl 69 M _ ((hx2.alloc _).alloc _) Tryd.underlying69 rfl (by rw [HS.out]; kernel_rfl) ?_)
    | (refine ⟨trivial, rfl, ?_⟩; gi_at_call 50; refine (fieldsOf_any _ _).mono ?_; rintro e w' ⟨rfl, rfl⟩))
  have hb2' : Below w.heap.size w w2 := HB.out.trans (hb2.mono (by simp))
  have hz2 : w.heap.size + 1 ≤ w2.heap.size := by have := hb2.size; simpa using this
  obtain ⟨kb, hkbd⟩ : ∃ kb, UInt8.ofNat r.m.kind = kb := ⟨_, rfl⟩
  have ek : Value.int .u8 r.kind = bv kb := by unfold bv; rw [← hkbd, ← HKB.out]
  have hown3 : (((w2.alloc (.cells #[.int .u8 r.kind] 5)).alloc (.cells #[.slice (some ⟨w2.heap.size, 0, none⟩) 1 1] 42)).alloc (.cells M 69)).ownsRow w.heap.size 5 1 (.slice (some ⟨w2.heap.size, 0, none⟩) 1 1) 1 ((soFar kb []).map bv) := by
    rw [ek]
    exact ((own_one w2 w.heap.size (by omega) kb).alloc _).alloc _
  have hg3 : Blk (((w2.alloc (.cells #[.int .u8 r.kind] 5)).alloc (.cells #[.slice (some ⟨w2.heap.size, 0, none⟩) 1 1] 42)).alloc (.cells M 69)) (w2.heap.size + 1) 42 #[.slice (some ⟨w2.heap.size, 0, none⟩) 1 1] := (Blk.newAt _ _ (by simp) rfl).alloc _
  have hx3 : Blk (((w2.alloc (.cells #[.int .u8 r.kind] 5)).alloc (.cells #[.slice (some ⟨w2.heap.size, 0, none⟩) 1 1] 42)).alloc (.cells M 69)) (w2.heap.size + 1 + 1) 69 M := Blk.newAt _ _ (by simp) rfl
  have hb3 : Below w.heap.size w (((w2.alloc (.cells #[.int .u8 r.kind] 5)).alloc (.cells #[.slice (some ⟨w2.heap.size, 0, none⟩) 1 1] 42)).alloc (.cells M 69)) := ((hb2'.alloc (by omega) _).alloc (by simp; omega) _).alloc (by simp; omega) _
  have hz3 : (((w2.alloc (.cells #[.int .u8 r.kind] 5)).alloc (.cells #[.slice (some ⟨w2.heap.size, 0, none⟩) 1 1] 42)).alloc (.cells M 69)).heap.size = w2.heap.size + 3 := by simp
  clear hx2 k2 hb2 hb2' hx k0 hk0 HC HB HS hkr h31 ek
  generalize ((w2.alloc (.cells #[.int .u8 r.kind] 5)).alloc (.cells #[.slice (some ⟨w2.heap.size, 0, none⟩) 1 1] 42)).alloc (.cells M 69) = W3 at *
  obtain ⟨gb, hgb⟩ : ∃ gb, w2.heap.size + 1 = gb := ⟨_, rfl⟩
  rw [hgb] at hg3 hx3 ⊢
  have hseq := HSEQ.out _ _ hb3 hx3
  obtain ⟨xs, hxs⟩ : ∃ xs, fld 1 (parts r.m) = xs := ⟨_, rfl⟩
  have HOK := HF.out.ok
  have HXS : Hid (∀ p ∈ xs, p.1 ≤ 9 ∧ p.2.length < 16777216) := Lib.hid fun p hp => by
    rw [← hxs] at hp
    obtain ⟨h1, h2, h3⟩ := fld_tag _ _ p hp
    rw [parts_length] at h2
    exact ⟨by omega, parts_short HOK _ h3⟩
  have HLEN : Hid ((soFar kb xs).length ≤ 1073741824) := Lib.hid (by rw [← hxs, ← hkbd, soFar_all]; exact write_len HOK)
  have HFIN : Hid (soFar kb xs = writeM r.m) := Lib.hid (by rw [← hxs, ← hkbd, soFar_all])
  rw [hxs] at hseq
  have HZ := Lib.hid (And.intro hgb (And.intro hz2 hz3))
  have hgw : w2.heap.size ≠ gb := by omega
  have hwg : w.heap.size ≤ w2.heap.size := by omega
  have hwb : w.heap.size ≤ gb := by omega
  clear HSEQ hxs hkbd HOK HF HKB hx3 hz2 hgb
  refine wpIn_rangeFunc_M (gf := 62) (lb := #[.pointer (some ⟨gb + 1, 0, none⟩)]) rfl (enters_of Tryd.func62 (by kernel_rfl) rfl) hseq (fun x o W vs h => by obtain ⟨v, rfl, _⟩ := h; rfl)
    (Inv w w.heap.size gb kb) (fun _ _ _ _ => False) (inv_ab w _ gb kb _ hb3.size (Nat.le_refl _)) (fun _ => ⟨fun _ _ _ _ h _ => h, fun _ _ _ h => h.elim⟩)
    (fun b => b = gb ∨ b = w2.heap.size) ⟨w2.heap.size, 1, 1, hg3, hown3, rfl, rfl, hgw, hwg, hwb, hb3⟩ (fun b hb => by rcases hb with rfl | rfl <;> omega)
    (fun x o a' W => ∃ f, a' = ⟨arr 29 f, []⟩ ∧ f 5 = .pointer (some ⟨gb, 0, none⟩) ∧ f 6 = .int .i64 (x.1 : Int) ∧ RdB W (fun b => b < W.heap.size ∧ ¬ o b) (f 7) x.2)
    (fun x o a' W l b b' _ h1 h2 h3 => by
      obtain ⟨f, q1, q2, q3, q4⟩ := h3
      exact ⟨f, q1, q2, q3, (q4.kept fun a x _ h => cell_putObj h1 h2 b' h).mono fun c hc => ⟨by simpa [World.putObj] using hc.1, hc.2⟩⟩) ?assign ?body ?done ?stop
  case assign =>
    intro l pre x vs o W K hlt hpre hi henc hK
    obtain ⟨v, rfl, hrd⟩ := henc
    have HRD := Lib.hid hrd
    clear hrd hi hown3 hg3 hb3 hseq
    gi_wp2
    exact hK _ _ (keepsFrom_of_below (Below.refl _ _)) (Below.refl _ _) ⟨_, congrArg (fun t => Act.mk t []) (arr_getD _ rfl), rfl, rfl, HRD.out⟩
  case body =>
    rintro l pre x o a' W hl hlt hpre ⟨g, n, cap, hBg, hown, hn, rfl, hgg, hwg', hwb', hb⟩ ⟨f, rfl, f5, f6, hrd⟩
    obtain ⟨t, bs⟩ := x
    have hx := HXS.out (t, bs) (by obtain ⟨q, hq⟩ := hpre; rw [← hq]; simp)
    have hln := Nat.le_trans (soFar_le (k := kb) hpre) HLEN.out
    have hln0 := Nat.le_trans (soFar_le (k := kb) ((List.prefix_append pre [(t, bs)]).trans hpre)) HLEN.out
    rw [← hn] at hln0
    have hsn := soFar_snoc kb pre (t, bs)
    obtain ⟨A, c, hv, hc1, hc2, hc3⟩ := id hrd
    have hrr : RdB W (fun b => b < W.heap.size ∧ ¬ (b = gb ∨ b = g)) (.slice A bs.length c) bs := by rw [← hv]; exact hrd
    obtain ⟨m, hm⟩ : ∃ m, bs.length = m := ⟨_, rfl⟩
    have ht9 : t ≤ 9 := hx.1
    have hm24 : m < 16777216 := by rw [← hm]; exact hx.2
    rw [hm] at hrr hv
    have et : bv (UInt8.ofNat t) = .int .u8 (t : Int) := by unfold bv; rw [UInt8.toNat_ofNat']; congr 1; omega
    have hBs := hb.size
    have r0 : RdB (W.alloc (.cells #[bv (UInt8.ofNat t)] 5)) (fun b => b = W.heap.size) (.slice (some ⟨W.heap.size, 0, none⟩) 1 1) [UInt8.ofNat t] := rdB_cells (n := 1) (fun i hi => by
      obtain rfl : i = 0 := by omega
      exact (Blk.new W 5 #[bv (UInt8.ofNat t)]).cell 0) rfl (by omega) (by omega) rfl
    obtain ⟨g1, cap1, w1, run1, own1, hg1, hg1'⟩ := app_grow (w := W.alloc (.cells #[bv (UInt8.ofNat t)] 5)) (by simp; omega) (hown.alloc _) r0 (by omega) (by omega)
    obtain ⟨cs0, hcs0⟩ := ownsRow_cells hown
    have hgl : g < W.heap.size := (Array.getElem?_eq_some_iff.1 hcs0).1
    have hG1 : W.grownBy w1 (some g) := grown_trans (grown_alloc W _ _) hg1 (.inl rfl)
    have hg1c : g1 = g ∨ W.heap.size ≤ g1 := by
      rcases hg1' with h | h
      · left; simp only [Value.ownBlock, Option.some.injEq] at h; exact h.symm
      · right; rw [h]; simp
    have hr1 : RdB w1 (fun b => b < W.heap.size ∧ ¬ (b = gb ∨ b = g)) (.slice A m c) bs := hrr.grown hG1 fun b hb e => by
      injection e with e
      exact hb.2 (.inr e)
    have hs1 := hG1.size
    have HAR := appendRun_grow (w := w1) (by omega) own1 (by omega) (fun b hb => ⟨fun e => by
      simp only [Value.ownBlock, Option.some.injEq] at e
      rcases hg1c with h | h
      · exact hb.2 (.inr (e.trans h))
      · have := hb.1; omega, by omega⟩) hr1 hm hm24
    rw [et] at run1
    have hgc : W.cell? ⟨gb, 0, none⟩ = some (.slice (some ⟨g, 0, none⟩) n cap) := by rw [hBg.cell]; rfl
    have R1 := Lib.hid run1
    have HPOST : Hid (∀ (w2' : World) (g2 cap2 : Nat), w2'.ownsRow w.heap.size 5 1 (.slice (some ⟨g2, 0, none⟩) (n + 1 + 3 + m) cap2) (n + 1 + 3 + m) ((soFar kb pre ++ [UInt8.ofNat t] ++ run bs).map bv) → w1.grownBy w2' (some g1) → (some g1 = some g2 ∨ w1.heap.size ≤ g2) →
        (w2'.cell? ⟨gb, 0, none⟩ = some (.slice (some ⟨g, 0, none⟩) n cap) ∧ w2'.frozen? ⟨gb, 0, none⟩ = false) ∧
        ∀ v2, v2 = Value.slice (some ⟨g2, 0, none⟩) (n + 1 + 3 + m) cap2 → KeepsFrom W3.heap.size W (w2'.setCell ⟨gb, 0, none⟩ v2) ∧ Keep (fun b => b = gb ∨ b = g) W (w2'.setCell ⟨gb, 0, none⟩ v2) ∧ ∃ o', Inv w w.heap.size gb kb (pre ++ [(t, bs)]) o' (w2'.setCell ⟨gb, 0, none⟩ v2) ∧ Goes (fun b => b = gb ∨ b = g) o' W) := Lib.hid (by
      intro w2' g2 cap2 own2 hg2 hg2'
      have hG2 : W.grownBy w2' (some g) := grown_trans hG1 hg2 (by
        rcases hg1c with h | h
        · left; rw [h]
        · right; intro b hb; injection hb with hb; omega)
      have hBg2 : Blk w2' gb 42 #[.slice (some ⟨g, 0, none⟩) n cap] := hBg.grown hG2 (by intro e; injection e with e; exact hgg e.symm)
      have hg2c : g2 = g ∨ W.heap.size ≤ g2 := by
        rcases hg2' with h | h
        · injection h with h; omega
        · right; omega
      have hgbl := hBg.lt
      refine ⟨⟨by rw [hBg2.cell]; rfl, hBg2.frozen 0⟩, ?_⟩
      rintro v2 rfl
      refine ⟨keepsFrom_trans (keepsFrom_grown hG2 hcs0) (keepsFrom_row hBg2 (by simp [World.setCell]) fun b hb => Below.heap_setCell _ _ _ _ hb), (keep_grown hG2 (.inr rfl)).trans (Keep.setCell _ _ _ (.inl rfl)), fun b => b = gb ∨ b = g2, ⟨g2, n + 1 + 3 + m, cap2, (hBg2.store 0 _).same rfl, ?_, ?_, rfl, ?_, ?_, hwb', ?_⟩, ?_⟩
      · rw [hsn]
        refine ownsRow_block own2 fun b hb => ?_
        simp only [Value.ownBlock, Option.some.injEq] at hb
        subst hb
        refine Below.heap_setCell _ _ _ _ fun e => ?_
        have e' : g2 = gb := e
        rcases hg2c with h | h
        · exact hgg (h.symm.trans e')
        · omega
      · rw [hsn, List.length_append, List.length_append, ← hn, run, List.length_append, hm]
        show n + 1 + 3 + m = n + 1 + (3 + m)
        omega
      · intro e
        rcases hg2c with h | h
        · exact hgg (h.symm.trans e)
        · omega
      · rcases hg2c with h | h
        · rw [h]; exact hwg'
        · omega
      · exact (hb.grown hG2 hBs fun k hk => by injection hk with hk; omega).setCell (by simpa using hwb') _
      · intro b hb
        rcases hb with rfl | rfl
        · exact .inl (.inl rfl)
        · rcases hg2c with h | h
          · exact .inl (.inr h)
          · exact .inr h)
    have HA := Lib.hid HAR
    rw [lit29, f5, f6, hv]
    have ht0 : (t : Int) ≤ 9 := by omega
    clear hBg hown hn hgg hwg' hwb' hb hrd hv hc1 hc2 hc3 hrr hm hx hln hln0 hsn r0 own1 hg1 hg1' hG1 hg1c hr1 hs1 HAR run1 hcs0 hgl hBs f5 f6 et hown3 hg3 hb3 hseq hm24 ht9 hz3 hgw hwg hwb
    gi_wp2_with (first
      | (refine wpListIn_app (fun _ => trivial) rfl (.tmp 21) (.tmp 24) _ _ rfl _ _ rfl rfl _ _ R1.out ?_)
      | (refine ⟨trivial, rfl, ?_⟩; gi_at_call 51; refine (CallsIn.inRound l (callsIn_wide.2 HA.out)).mono ?_; rintro e w2' ⟨g2, cap2, rfl, own2, hg2, hg2'⟩; obtain ⟨⟨hcell2, hfr2⟩, hpost⟩ := HPOST.out w2' g2 cap2 own2 hg2 hg2'; have HP2 := Lib.hid hpost; clear hpost own2 hg2 hg2'))
    exact HP2.out _ rfl
  case done =>
    rintro D o W hD ⟨g, n, cap, hBg, hown, hn, rfl, hgg, hwg', hwb', hb⟩ hK
    have hcell : W.cell? ⟨gb, 0, none⟩ = some (.slice (some ⟨g, 0, none⟩) n cap) := by rw [hBg.cell]; rfl
    have HO := Lib.hid hown
    have HN := Lib.hid hn
    have HB := Lib.hid hb
    have HD := Lib.hid hK
    have HDB := Lib.hid (Nat.le_trans hb3.size hD)
    clear hown hn hb hK hBg hown3 hg3 hb3 hseq hgg hwg' hwb' hD hz3
    gi_wp2
    refine ⟨by simp, .inl ⟨_, _, rfl, run_takeDeferred HD.out, ?_⟩⟩
    exact ⟨_, results_tmp2 rfl _ _ _, g, n, cap, rfl, by rw [HN.out, HFIN.out], by rw [← HFIN.out]; exact ownsRow_putObj HO.out HD.out rfl _, below_putObj HB.out _ HDB.out⟩
  case stop =>
    rintro D c pre o W _ _ _ h _
    exact h.elim
end Go.Proofs.YtkbdkeclbokhdaaDoor
