/-
  Layer 21: the law's own functions: a message as the document has it, all that is on its way as a row. In whatever memory. No condition.
  Layer 21: the law's own function: all that is on its way as a row. In whatever memory. No condition.
-/
import Derived.Test.YtekakelkjnhehaaQRef
import Derived.Test.YtekakelkjnhehaaPstAll
import Derived.Test.YtekakelkjnhehaaPackStr
namespace Go.Proofs.Ytekakelkjnhehaa
open Go Go.RowKit

theorem plain_built (m : MailS) : (Try.prog.built 45 [(0, .bool m.fc), (1, .bool m.tc), (2, .int .i64 m.fn), (3, .int .i64 m.tn), (4, .string ⟨m.bs.toArray⟩)]).getD #[] = (refC m).toArray := by kernel_rfl
theorem plain_some (a b : Bool) (c d : Int) (s : ByteArray) : (Try.prog.built 45 [(0, .bool a), (1, .bool b), (2, .int .i64 c), (3, .int .i64 d), (4, .string s)]).isSome = true := by kernel_rfl
set_option maxRecDepth 100000 in
set_option maxHeartbeats 4000000 in
theorem plain_any (m : MailS) (u : Value) (w : World) (hr : RdB w (fun b => b < w.heap.size) u m.bs) :
    Calls Try.prog 9 #[mailV m u] w fun e w' => e = .returned (refV m) ∧ Below w.heap.size w w' := by
  obtain ⟨A, c, rfl⟩ := hr.shape
  obtain ⟨W, hW⟩ : ∃ z, (w.alloc (.cells (mC m (.slice A m.bs.length c)).toArray 48)).alloc (.cells (refC zeroM).toArray 45) = z := ⟨_, rfl⟩
  have hp : Blk W w.heap.size 48 (mC m (.slice A m.bs.length c)).toArray := by rw [← hW]; exact (Blk.newAt _ _ rfl rfl).alloc _
  have hz : Blk W (w.heap.size + 1) 45 (refC zeroM).toArray := by rw [← hW]; exact Blk.newAt _ _ (by simp) rfl
  have hb : Below w.heap.size w W := by rw [← hW]; exact b2 _ _ _ _ _
  have hcv := str_rd (hr.kept fun a x ha h => (hb.cell (p := a) ha).trans h)
  have HB := Lib.hid hb
  have HZ := Lib.hid hz
  have c0 : W.cell? ⟨w.heap.size, 0, none⟩ = some (.bool m.fc) := hp.cell 0
  have c1 : W.cell? ⟨w.heap.size, 1, none⟩ = some (.int .i64 m.fn) := hp.cell 1
  have c2 : W.cell? ⟨w.heap.size, 2, none⟩ = some (.bool m.tc) := hp.cell 2
  have c3 : W.cell? ⟨w.heap.size, 3, none⟩ = some (.int .i64 m.tn) := hp.cell 3
  have c4 : W.cell? ⟨w.heap.size, 4, none⟩ = some (.slice A m.bs.length c) := hp.cell 4
  have HW : Hid ((w.alloc (.cells #[.bool m.fc, .int .i64 m.fn, .bool m.tc, .int .i64 m.tn, .slice A m.bs.length c] 48)).alloc (.cells #[.bool false, .bool false, .int .i64 0, .int .i64 0, .string ⟨#[]⟩] 45) = W) := Lib.hid hW
  clear hp hz hb hr hW
  unfold mailV
  go_enter Try.func9, Try.ntmps9
  go_upto_region 1 with fail
  rw [HW.out]
  go_wp2_with (first
    | (guard_target = wpList _ _ _ (Oper.mk _ (.build _ _) _ _ _ _ :: _) _ _; refine wpList_build rfl _ _ rfl (plain_some _ _ _ _ _) ?_)
    | (guard_target = wpList _ _ _ (Oper.mk _ (.store 45 _ _) _ _ _ _ :: _) _ _; refine wpList_store_row rfl 45 _ _ rfl (w.heap.size + 1) (refC m).toArray rfl (congrArg Value.agg (plain_built m)) 45 _ HZ.out (by kernel_rfl) rfl (ref_all m) ?_))
  exact ref_end1 rfl (w.heap.size + 1) m rfl (HZ.out.setRow _) rfl ⟨rfl, below_setRow HB.out (by omega) _⟩
end Go.Proofs.Ytekakelkjnhehaa
namespace Go.Proofs.Ytekakelkjnhehaa
open Go Go.RowKit
attribute [local go_sem] Oper.semAt_some

theorem own_keptM {W W' : World} {B k n : Nat} {e : TypeId} {v : Value} {xs : List Value} (h : W.ownsRow B e k v n xs) (hk : ∀ b, v.ownBlock = some b → b < W.heap.size → W'.heap[b]? = W.heap[b]?) : W'.ownsRow B e k v n xs := by
  refine ⟨h.1, ?_⟩
  rcases h.2 with h0 | ⟨g, cap, cur, h1, h2, h3, h4⟩
  · exact .inl h0
  · exact .inr ⟨g, cap, cur, h1, h2, (hk g (by rw [h1]; rfl) (Blk.lt h3)).trans h3, h4⟩
theorem own_type {W : World} {B B' k k' n n' : Nat} {e e' : TypeId} {v v' : Value} {xs xs' : List Value} (h : W.ownsRow B e k v n xs) (h' : W.ownsRow B' e' k' v' n' xs') (he : e ≠ e') {b : Nat} (hb : v.ownBlock = some b) : v'.ownBlock ≠ some b := fun hb' => by
  rcases h.2 with ⟨h0, _⟩ | ⟨g, cap, cur, h1, h2, h3, h4⟩
  · rw [h0] at hb; cases hb
  · rcases h'.2 with ⟨h0, _⟩ | ⟨g', cap', cur', h1', h2', h3', h4'⟩
    · rw [h0] at hb'; cases hb'
    · rw [h1] at hb
      rw [h1'] at hb'
      obtain rfl : g = b := Option.some.inj hb
      obtain rfl : g' = g := Option.some.inj hb'
      rw [h3] at h3'
      cases h3'
      exact he rfl
theorem own_there {W : World} {B k n : Nat} {e : TypeId} {v : Value} {xs : List Value} (h : W.ownsRow B e k v n xs) {b : Nat} (hb : v.ownBlock = some b) : ∃ x, W.heap[b]? = some x ∧ x.isCells = true := by
  rcases h.2 with ⟨h0, _⟩ | ⟨g, cap, cur, h1, h2, h3, h4⟩
  · rw [h0] at hb; cases hb
  · rw [h1] at hb
    obtain rfl : g = b := Option.some.inj hb
    exact ⟨_, h3, rfl⟩
theorem turn_stayM {B : Nat} {o : Nat → Prop} {W W' : World} (h : Stay B o W W') : Turn (fun i => B ≤ i) W W' := ⟨h.os, h.tape, h.output, h.size, fun i hi hn => h.block i (.inl (by omega)) hi⟩
def rowsM (p : List (MailS × Value)) : List (List Value) := p.map fun q => mC q.1 q.2
/-- What is gathered so far: w0 the call's first memory, r and g the blocks of what is answered and of the row. -/
def MailI (w0 : World) (r g : Nat) (pre : List (MailS × Nat)) (o : Nat → Prop) (W : World) : Prop :=
  ∃ v p, Blk W g 24 #[v] ∧ Blk W r 24 #[.slice none 0 0] ∧ W.ownsRow (g + 1) 48 5 v pre.length (rowsM p).flatten ∧ p.map (·.1) = pre.map (·.1) ∧
    (∀ q ∈ p, W.ownsRow (g + 1) 5 1 q.2 q.1.bs.length (q.1.bs.map bv)) ∧ Below w0.heap.size w0 W ∧ ∀ b, o b ↔ (b = g ∨ v.ownBlock = some b ∨ ∃ q ∈ p, q.2.ownBlock = some b)
theorem mailI_ab {w0 : World} {r g B : Nat} (hr : r < B) (hw : w0.heap.size ≤ B) : AbO B (MailI w0 r g) where
  stay := fun s o X X' h hs => by
    obtain ⟨v, p, h1, h2, h3, h4, h5, h6, h7⟩ := h
    exact ⟨v, p, (hs.block g (.inr ((h7 g).2 (.inl rfl))) h1.lt).trans h1, (hs.block r (.inl hr) h2.lt).trans h2, own_keptM h3 fun b hb hl => hs.block b (.inr ((h7 b).2 (.inr (.inl hb)))) hl, h4,
      fun q hq => own_keptM (h5 q hq) fun b hb hl => hs.block b (.inr ((h7 b).2 (.inr (.inr ⟨q, hq, hb⟩)))) hl, h6.trans ((turn_stayM hs).below h6.size fun i hi h => by omega), h7⟩
  there := fun s o X h b hb => by
    obtain ⟨v, p, h1, h2, h3, h4, h5, h6, h7⟩ := h
    rcases (h7 b).1 hb with rfl | hv | ⟨q, hq, hv⟩
    · exact ⟨_, h1, rfl⟩
    · exact own_there h3 hv
    · exact own_there (h5 q hq) hv
theorem mail_idx {l : List MailS} {pre : List (MailS × Nat)} {x : MailS × Nat} (h : (pre ++ [x]) <+: l.zipIdx) : x.2 = pre.length ∧ x.1 ∈ l := by
  have h1 := h.getElem (i := pre.length) (by simp)
  rw [List.getElem_append_right (Nat.le_refl _)] at h1
  simp at h1
  have hl : x ∈ l.zipIdx := h.subset (by simp)
  exact ⟨by rw [h1], List.mem_of_getElem? (List.mem_zipIdx_iff_getElem?.1 hl)⟩
theorem loadVar_oneM {P : Program} {ty : TypeId} {d : TypeDesc} {a : Addr} {v : Value} {w : World} (hu : P.underlying ty = some d) (hd : (match d with | .struct _ | .array _ _ => true | _ => false) = false) (hc : w.cell? a = some v) :
    (Go.loadVar ty a).run P w = .ok v w := by
  have hagg : (isAgg ty).run P w = .ok false w := by
    unfold isAgg
    rw [Sem.run_bind, run_underlying hu w]
    cases d <;> simp_all
  simp [loadVar, Sem.run_bind, hagg, hc, go_sem]
theorem results_cellM {P : Program} {fn : Func} {p : Tmp} {ty : TypeId} (h : fn.results = #[.cell p ty]) (tmps : Array Value) (w : World) (a : Addr) (x : Value)
    (hp : tmps.getD p undef = .pointer (some a)) (hx : (Go.loadVar ty a).run P w = .ok x w) : (results fn tmps).run P w = .ok x w := by
  have hp' : tmps[p]?.getD undef = .pointer (some a) := by simpa using hp
  simp [results, h, hp', asAddr, hx]
section
variable {F : Fence} {n : Nat} {ops : Array Oper} {rest : List Oper} {o : Oper} {a : Act} {w : World} {Q : Exit → Act → World → Prop}
theorem wpListIn_build_mail (hF : ∀ f, F.fn f) (hgd : o.guard = none) (x : Operand) (ho : o.op = .buildSlice 24 1 #[(0, x)]) (m : MailS) (u : Value) (hx : a.eval x = mailV m u)
    (h : wpListIn F n Try.prog ops Q rest (a.put o.dst (.slice (some ⟨w.heap.size, 0, none⟩) 1 1)) (w.alloc (.cells (mC m u).toArray 48))) : wpListIn F n Try.prog ops Q (o :: rest) a w := by
  refine wpListIn_val hF hgd (by rw [ho]; intro c hc; cases hc) _ _ ?_ h
  have hp : ((#[(0, x)] : Array (Nat × Operand)).map fun (i, x) => (i, a.eval x)) = #[(0, mailV m u)] := by simp [hx]
  unfold execOp
  simp only [ho, Sem.run_bind, hp, run_build_mail, Result.andThen_ok, Sem.run_pure]
theorem wpListIn_append_runM {P : Program} (hF : ∀ f, F.fn f) (hgd : o.guard = none) (s x : Operand) (t t' : TypeId) (ho : o.op = .call { callee := .builtin .append, args := #[s, x], argTypes := #[t, t'] })
    (vs vx : Value) (hs : a.eval s = vs) (hx : a.eval x = vx) (v : Value) (w' : World) (hrun : (Builtin.append_ #[t, t'] o.type #[vs, vx]).run P w = .ok v w') (h : wpListIn F n P ops Q rest (a.put o.dst v) w') : wpListIn F n P ops Q (o :: rest) a w := by
  refine wpListIn_val hF hgd (by rw [ho]; intro c hc; cases hc) v w' ?_ h
  simp [execOp, ho, resolve, invoke, builtin, hs, hx, hrun, Result.andThen]
end
theorem PostAt.big {W : World} {Y : Nat → Prop} {g : Nat} {l : List MailS} (h : PostAt W Y g l) {m : MailS} (hm : m ∈ l) : m.bs.length ≤ 140737488351232 := by
  obtain ⟨v, h1, ⟨p, hp, h2, h3⟩, _⟩ := h
  rw [← hp] at hm
  obtain ⟨q, hq, rfl⟩ := List.mem_map.1 hm
  obtain ⟨_, _, _, _, h, _⟩ := h3 q hq
  exact h
set_option maxRecDepth 100000 in
set_option maxHeartbeats 8000000 in
theorem mails_any {Y : Nat → Prop} {gp : Nat} {l : List MailS} {w : World} (h : PostAt w Y gp l) :
    Calls Try.prog 17 #[.pointer (some ⟨gp, 0, none⟩)] w fun e w' => ∃ v, e = .returned v ∧ RdM w' (fun b => w.heap.size ≤ b ∧ b < w'.heap.size) v l ∧ Below w.heap.size w w' := by
  obtain ⟨r, hr⟩ : ∃ r, w.heap.size = r := ⟨_, rfl⟩
  obtain ⟨W1, hW1⟩ : ∃ W1, (w.alloc (.cells #[.slice none 0 0] 24)).alloc (.cells #[.slice none 0 0] 24) = W1 := ⟨_, rfl⟩
  have hb1 : Below w.heap.size w W1 := by rw [← hW1]; exact b2 _ _ _ _ _
  have kr : Blk W1 r 24 #[.slice none 0 0] := by rw [← hW1, ← hr]; exact (Blk.newAt _ _ rfl rfl).alloc _
  have kg : Blk W1 (r + 1) 24 #[.slice none 0 0] := by rw [← hW1, ← hr]; exact Blk.newAt _ _ (by simp) rfl
  have hz1 : W1.heap.size = r + 2 := by rw [← hW1, ← hr]; simp
  have hp1 := h.below hb1
  have hl6 := h.len
  have hbig : ∀ m ∈ l, m.bs.length ≤ 140737488351232 := fun m hm => h.big hm
  obtain ⟨W2, hW2⟩ : ∃ W2, W1.alloc (.cells #[.pointer (some ⟨gp, 0, none⟩)] 59) = W2 := ⟨_, rfl⟩
  have hb2 : Below W1.heap.size W1 W2 := by rw [← hW2]; exact (Below.refl _ _).alloc (Nat.le_refl _) _
  have hbp : Blk W2 (r + 2) 59 #[.pointer (some ⟨gp, 0, none⟩)] := by rw [← hW2]; exact Blk.newAt _ _ hz1 rfl
  have HSQ := Lib.hid (all_seq (hp1.below hb2) hbp)
  have hb02 := hb1.trans (hb2.mono hb1.size)
  have hYr : ∀ b, Y b → b < r := fun b hb => by have := h.lt b hb; omega
  have h0 : MailI w r (r + 1) [] (fun b => b = r + 1) W2 := ⟨.slice none 0 0, [], kg.below hb2 kg.lt, kr.below hb2 kr.lt, ⟨rfl, .inl ⟨rfl, rfl⟩⟩, rfl, (fun q hq => by cases hq), hb02, fun b => ⟨fun h => .inl h, fun h => h.elim id fun h => h.elim (fun h => by cases h) fun h => by obtain ⟨q, hq, _⟩ := h; cases hq⟩⟩
  have HWZ : Hid (W2.heap.size = r + 3 ∧ w.heap.size ≤ W2.heap.size ∧ r < W2.heap.size) := Lib.hid ⟨by rw [← hW2]; simp [hz1], hb02.size, by have := hb02.size; rw [← hW2]; simp [hz1]; omega⟩
  have hpre0 : ∀ b, b = r + 1 → ¬ Y b := fun b hb hy => by have := hYr b hy; omega
  have HW1 : Hid ((w.alloc (.cells #[.slice none 0 0] 24)).alloc (.cells #[.slice none 0 0] 24) = W1) := Lib.hid hW1
  have HW2 := Lib.hid hW2
  have HZ1 := Lib.hid hz1
  have HR := Lib.hid hr
  have HL := Lib.hid hl6
  clear h hb1 kr kg hz1 hp1 hl6 hb2 hbp hb02 hYr hW1 hW2
  refine (callsIn_wide (n := 0)).1 ?_
  refine callsIn_of_wp_marks Try.func17 rfl trivial ?_ rfl
  refine wpIn_wide.2 ?_
  simp only [Try.ntmps17, List.size_toArray, List.length_cons, List.length_nil, Nat.reduceAdd, Nat.reduceSub, Array.replicate_succ, Array.replicate_zero, List.push_toArray, List.append_toArray, List.nil_append, List.cons_append]
  go_upto_region 2 with fail
  rw [HW1.out]
  go_wp2_with (go_at_call 18; refine (postAll_any gp _).mono ?_; rintro e Wa ⟨rfl, hWa⟩)
  rw [HW2.out, HZ1.out]
  clear hWa
  refine (wpIn_wide (n := 0)).1 ?_
  refine wpIn_rangeFunc_G (gf := 27) (lb := #[.pointer (some ⟨r + 2, 0, none⟩)]) rfl (enters_of Try.func27 (by kernel_rfl) rfl) HSQ.out
    (fun x o s W vs h => by obtain ⟨u, rfl, _⟩ := h; rfl)
    (MailI w r (r + 1)) (fun _ _ _ _ => False) (mailI_ab HWZ.out.2.2 HWZ.out.2.1) (fun c => ⟨fun _ _ _ _ h _ => h, fun _ _ _ h => h.elim⟩)
    (fun b => b = r + 1) h0 hpre0
    (fun x o s a' W => ∃ A' c' b5, a' = { tmps := #[.pointer (some ⟨gp, 0, none⟩), undef, .pointer (some ⟨r, 0, none⟩), .pointer (some ⟨r + 1, 0, none⟩), .int .i64 (x.2 : Int), .pointer (some ⟨b5, 0, none⟩), .pointer (some ⟨gp, 0, none⟩), .func (.func 27) #[] #[.pointer (some ⟨r + 2, 0, none⟩)], .int .i64 (x.2 : Int), mailV x.1 (.slice A' x.1.bs.length c'), undef, undef, undef, undef, undef, undef, undef, undef, undef], defers := [] } ∧ Blk W b5 48 (mC x.1 (.slice A' x.1.bs.length c')).toArray ∧ W.ownsRow s 5 1 (.slice A' x.1.bs.length c') x.1.bs.length (x.1.bs.map bv))
    (fun x o s a' W l b b' _ h1 h2 h3 => by
      obtain ⟨A', c', b5, q1, q2, q3⟩ := h3
      refine ⟨A', c', b5, q1, ?_, own_keptM q3 fun b0 hb0 _ => World.putObj_heap_other fun e => ?_⟩
      · refine (World.putObj_heap_other fun e => ?_).trans q2
        subst e
        unfold Blk at q2
        rw [h1] at q2
        cases q2
        cases h2
      · obtain ⟨x0, hx0, hc0⟩ := own_there q3 hb0
        subst e
        rw [h1] at hx0
        cases hx0
        rw [h2] at hc0
        cases hc0) ?assign ?body ?done ?stop
  case assign =>
    intro l' pre x s vs o W K hs1 hs2 hpre hi henc hK
    obtain ⟨u, rfl, hown, hos⟩ := henc
    obtain ⟨A', c', rfl, _⟩ := own_len hown
    have HKK := Lib.hid hK
    have HOW := Lib.hid hown
    clear hi hK hown hos hpre h0 hpre0
    simp only [List.zip_toArray, List.zip_cons_cons, List.zip_nil_right, List.foldl_toArray, List.foldl_cons, List.foldl_nil, List.setIfInBounds_toArray, List.set_cons_zero, List.set_cons_succ]
    gi_wp2_with (guard_target = wpListIn _ _ _ _ _ (Oper.mk _ (.store 48 _ _) _ _ _ _ :: _) _ _; refine wpListIn_store_arr (fun _ => trivial) rfl 48 _ _ rfl W.heap.size (mC x.1 (.slice A' x.1.bs.length c')).toArray rfl rfl 48 _ (heap_alloc_new W _) (by kernel_rfl) rfl (mail_all rfl) ?_; rw [World.setRow_alloc_new])
    have hb : Below W.heap.size W (W.alloc (.cells (mC x.1 (.slice A' x.1.bs.length c')).toArray 48)) := (Below.refl _ _).alloc (Nat.le_refl _) _
    exact HKK.out _ _ (keepsFrom_of_below hb) hb ⟨A', c', W.heap.size, rfl, Blk.newAt _ _ rfl rfl, ownsRow_kept HOW.out hb⟩
  case body =>
    rintro l' pre x o s a' W hl hlt hs1 hs2 hpre ⟨v, p, kg, kr, kv, hp1, hp2, hbW, hO⟩ ⟨A', c', b5, rfl, hk5, hown⟩
    have hidx := mail_idx hpre
    have hlen : pre.length < 600 := by
      have h1 := hpre.length_le
      have := HL.out
      rw [List.length_append, List.length_singleton, List.length_zipIdx] at h1
      omega
    have hrw := HR.out
    have hwz := HWZ.out
    obtain ⟨k, hk⟩ : ∃ k, pre.length = k := ⟨_, rfl⟩
    obtain ⟨m, hm⟩ : ∃ m, x.1 = m := ⟨_, rfl⟩
    obtain ⟨n, hn⟩ : ∃ n, m.bs.length = n := ⟨_, rfl⟩
    have hx2 : x.2 = k := hidx.1.trans hk
    rw [hm, hn] at hk5 hown
    rw [hm, hn, hx2]
    obtain ⟨Av, cv, rfl, hcv⟩ := own_len kv
    simp only [hk] at kg kv hO hcv hlen
    have els1 : ElsC 5 [mC m (.slice A' n c')] := fun y hy => by
      rw [List.mem_singleton.1 hy]
      refine ⟨rfl, fun z hz => ?_⟩
      simp only [mC, List.mem_cons, List.not_mem_nil, or_false] at hz
      rcases hz with rfl | rfl | rfl | rfl | rfl <;> rfl
    obtain ⟨W6, hW6⟩ : ∃ z, W.alloc (.cells (mC m (.slice A' n c')).toArray 48) = z := ⟨_, rfl⟩
    have hb6 : Below W.heap.size W W6 := by rw [← hW6]; exact (Below.refl _ _).alloc (Nat.le_refl _) _
    have hs6 : W6.heap.size = W.heap.size + 1 := by rw [← hW6]; simp
    have hr6 := rdC_one (k := 5) (w := W6) (g := W.heap.size) (by rw [← hW6]; exact Blk.new W 48 (mC m (.slice A' n c')).toArray) els1
    have hgl := kg.lt
    have hsz0 := hbW.size
    obtain ⟨v2, W7, hrun2, own2, hgr2, hob⟩ := app_own elMail (B := r + 1 + 1) (w := W6) (by omega) (ownsRow_kept kv hb6) hr6 (by omega)
    obtain ⟨A2, c2, rfl, hc2⟩ := own_len own2
    have hvb : ∀ b, (Value.slice Av k cv).ownBlock = some b → r + 1 + 1 ≤ b := fun b hb => (kv.lt b hb).1
    have kg7 : Blk W7 (r + 1) 24 #[.slice Av k cv] := (kg.below hb6 hgl).grown hgr2 (fun e => by have := hvb (r + 1) e.symm; omega)
    have c6 : W.cell? ⟨r + 1, 0, none⟩ = some (.slice Av k cv) := kg.cell 0
    have c7 : W7.cell? ⟨r + 1, 0, none⟩ = some (.slice Av k cv) := kg7.cell 0
    have f7 : W7.frozen? ⟨r + 1, 0, none⟩ = false := kg7.frozen 0
    have hset : ∀ b, b ≠ r + 1 → (W7.setCell ⟨r + 1, 0, none⟩ (.slice A2 (k + 1) c2)).heap[b]? = W7.heap[b]? := fun b hb => Below.heap_setCell _ _ _ _ hb
    have hkeep : ∀ b, b ≠ r + 1 → (Value.slice Av k cv).ownBlock ≠ some b → b < W.heap.size → (W7.setCell ⟨r + 1, 0, none⟩ (.slice A2 (k + 1) c2)).heap[b]? = W.heap[b]? := fun b h1 h2 h3 => (hset b h1).trans ((hgr2.block b (by omega) (fun e => h2 e.symm)).trans (hb6.block b h3))
    have hsz7 : W.heap.size ≤ (W7.setCell ⟨r + 1, 0, none⟩ (.slice A2 (k + 1) c2)).heap.size := by
      have := hgr2.size
      simp [World.setCell]
      omega
    have hb7 : Below w.heap.size w W7 := (hbW.trans (hb6.mono hbW.size)).grown hgr2 (by omega) (fun i hi => by have := hvb i hi; omega)
    have hb8 := hb7.setCell (p := ⟨r + 1, 0, none⟩) (by show w.heap.size ≤ r + 1; omega) (.slice A2 (k + 1) c2)
    have epre : (pre ++ [x]).length = k + 1 := by simp [hk]
    have hnewb : ∀ b, (Value.slice A' n c').ownBlock = some b → s ≤ b := fun b hb => (hown.lt b hb).1
    have HFIN : Hid (ownPostG W2.heap.size s o (MailI w r (r + 1)) (fun _ _ _ _ => False) (pre ++ [x]) W .normal (Act.mk #[] []) (W7.setCell ⟨r + 1, 0, none⟩ (.slice A2 (k + 1) c2))) := Lib.hid ⟨⟨hsz7, fun b ob hb1 hb2 hb3 => (hkeep b (fun e => by subst e; rw [show W.heap[r + 1]? = _ from kg] at hb2; cases hb2; cases hb3) (fun e => by
          obtain ⟨x0, hx0, hc0⟩ := own_there kv e
          rw [hb2] at hx0
          cases hx0
          rw [hb3] at hc0
          cases hc0) (Array.getElem?_eq_some_iff.1 hb2).1).trans hb2⟩,
        ⟨hsz7, fun b ob hb2 _ hn' => (hkeep b (fun e => hn' (.inl ((hO b).2 (.inl e)))) (fun e => hn' (.inl ((hO b).2 (.inr (.inl e))))) (Array.getElem?_eq_some_iff.1 hb2).1).trans hb2⟩,
        fun b => b = r + 1 ∨ (Value.slice A2 (k + 1) c2).ownBlock = some b ∨ ∃ q ∈ p ++ [(m, .slice A' n c')], q.2.ownBlock = some b,
        ⟨Value.slice A2 (k + 1) c2, p ++ [(m, .slice A' n c')], (kg7.store 0 _).same (by simp), (hkeep r (by omega) (fun e => by have := hvb r e; omega) kr.lt).trans kr, by
            rw [epre]
            unfold rowsM at own2 ⊢
            rw [List.map_append]
            exact own_keptM own2 fun b hb _ => hset b (by have := (own2.lt b hb).1; omega), by rw [List.map_append, List.map_append, hp1, List.map_singleton, List.map_singleton, hm], fun q hq => by
            rcases List.mem_append.1 hq with hq | hq
            · exact own_keptM (hp2 q hq) fun b hb hl' => hkeep b (by have := ((hp2 q hq).lt b hb).1; omega) (own_type (hp2 q hq) kv (by decide) hb) hl'
            · obtain rfl := List.mem_singleton.1 hq
              refine own_base (own_keptM (W' := W7.setCell ⟨r + 1, 0, none⟩ (.slice A2 (k + 1) c2)) (by show W.ownsRow s _ _ _ m.bs.length _; rw [hn]; exact hown) fun b hb hl' => hkeep b (by have := hnewb b hb; omega) (own_type hown kv (by decide) hb) hl') (by omega), hb8, fun b => Iff.rfl⟩,
        fun b hb => by
          rcases hb with rfl | hb | ⟨q, hq, hb⟩
          · exact .inl ((hO _).2 (.inl rfl))
          · rcases hob with h1 | h1
            · exact .inl ((hO b).2 (.inr (.inl (h1.symm.trans hb))))
            · right
              rw [h1] at hb
              have := Option.some.inj hb
              omega
          · rcases List.mem_append.1 hq with hq | hq
            · exact .inl ((hO b).2 (.inr (.inr ⟨q, hq, hb⟩)))
            · obtain rfl := List.mem_singleton.1 hq
              exact .inr (hnewb b hb)⟩
    have HR2 := Lib.hid hrun2
    have HK5 := Lib.hid hk5
    have HW6 := Lib.hid hW6
    have hk6 : k < 600 := hlen
    clear kg kr kv hp1 hp2 hbW hO hk5 hown hidx els1 hW6 hb6 hs6 hr6 hrun2 own2 hgr2 hob hvb kg7 hset hkeep hsz7 hb7 hb8 hnewb h0 hpre0 hpre hm hn hk epre hcv hc2 hx2 hwz hrw hgl hlen hsz0
    gi_wp2_with (first
      | (guard_target = wpListIn _ _ _ _ _ (Oper.mk _ (.load 48 _) _ _ _ _ :: _) _ _; refine wpListIn_load_arr (fun _ => trivial) rfl 48 _ rfl b5 rfl 48 _ _ HK5.out Try.underlying48 rfl (by kernel_rfl) ?_)
      | (guard_target = wpListIn _ _ _ _ _ (Oper.mk _ (.buildSlice _ 1 _) _ _ _ _ :: _) _ _; refine wpListIn_build_mail (fun _ => trivial) rfl _ rfl m (.slice A' n c') rfl ?_; rw [HW6.out])
      | (guard_target = wpListIn _ _ _ _ _ (Oper.mk _ (.call _) _ _ _ _ :: _) _ _; refine wpListIn_append_runM (fun _ => trivial) rfl (.tmp 14) (.tmp 16) _ _ rfl _ _ rfl rfl _ _ HR2.out ?_))
    exact HFIN.out
  case done =>
    rintro D o W hD ⟨v, p, kg, kr, kv, hp1, hp2, hbW, hO⟩ hK
    have hrw := HR.out
    have hwz := HWZ.out
    have c3 : W.cell? ⟨r + 1, 0, none⟩ = some v := kg.cell 0
    have cr : W.cell? ⟨r, 0, none⟩ = some (.slice none 0 0) := kr.cell 0
    have fr : W.frozen? ⟨r, 0, none⟩ = false := kr.frozen 0
    obtain ⟨Av, cv, rfl, hcv⟩ := own_len kv
    obtain ⟨k, hk⟩ : ∃ k, (l.zipIdx).length = k := ⟨_, rfl⟩
    simp only [hk] at kg kv hO hcv c3
    have hk6 : k ≤ 600 := by rw [← hk, List.length_zipIdx]; exact HL.out
    have hpl : p.length = k := by
      have := congrArg List.length hp1
      rw [List.length_map, List.length_map, hk] at this
      exact this
    have hpf : p.map (·.1) = l := by rw [hp1]; simp
    have HFIN : Hid (∀ wx, wx = (W.setCell ⟨r, 0, none⟩ (.slice Av k cv)).putObj D (.deferred none) → RdM wx (fun b => w.heap.size ≤ b ∧ b < wx.heap.size) (.slice Av k cv) l ∧ Below w.heap.size w wx) := Lib.hid fun wx hwx => by
      have hkeep : ∀ {B0 k0 n0 : Nat} {e0 : TypeId} {v0 : Value} {xs0 : List Value}, r < B0 → W.ownsRow B0 e0 k0 v0 n0 xs0 → wx.ownsRow B0 e0 k0 v0 n0 xs0 := fun hB h => own_keptM h fun b hb hl => by
        rw [hwx]
        refine (World.putObj_heap_other fun e => ?_).trans (Below.heap_setCell _ _ _ _ (by have := (h.lt b hb).1; show b ≠ r; omega))
        obtain ⟨x0, hx0, hc0⟩ := own_there h hb
        subst e
        rw [hK] at hx0
        cases hx0
        cases hc0
      have hsz : W.heap.size ≤ wx.heap.size := by rw [hwx]; simp [World.putObj, World.setCell]
      have hrb : ∀ q ∈ p, RdB wx (fun b => w.heap.size ≤ b ∧ b < wx.heap.size) q.2 q.1.bs := fun q hq => by
        have h := hkeep (by omega) (hp2 q hq)
        have hl : q.1.bs.length ≤ 140737488351232 := hbig q.1 (by rw [← hpf]; exact List.mem_map.2 ⟨q, hq, rfl⟩)
        exact (rdB_own h rfl hl).mono fun b hb => ⟨by omega, hb.2⟩
      refine ⟨⟨p, hpf, (rdC_own (hkeep (by omega) kv) (elsM hrb) (by unfold rowsM; rw [List.length_map]; exact hpl) (by omega)).mono fun b hb => ⟨by omega, hb.2.1⟩, hrb⟩, ?_⟩
      rw [hwx]
      have h1 := hbW.setCell (p := ⟨r, 0, none⟩) (by show w.heap.size ≤ r; omega) (.slice Av k cv)
      exact ⟨h1.os, h1.tape, h1.output, by simpa [World.putObj] using h1.size, fun i hi => (World.putObj_heap_other (by omega)).trans (h1.block i hi)⟩
    have HKD : Hid ((W.setCell ⟨r, 0, none⟩ (.slice Av k cv)).heap[D]? = some (.deferred (some []))) := Lib.hid ((Below.heap_setCell _ _ _ _ (by show D ≠ r; omega)).trans hK)
    have HCR : Hid (∀ o', ((W.setCell ⟨r, 0, none⟩ (.slice Av k cv)).putObj D o').cell? ⟨r, 0, none⟩ = some (.slice Av k cv)) := Lib.hid fun o' => by
      refine (World.cell?_of_block (w := W.setCell ⟨r, 0, none⟩ (.slice Av k cv)) (World.putObj_heap_other (by show r ≠ D; omega))).trans ?_
      exact ((kr.store 0 (.slice Av k cv)).cell 0)
    clear kg kr kv hp1 hp2 hbW hO hK h0 hpre0 hcv hk6 hpl hpf hk hwz hrw hD
    go_wp2
    refine ⟨by simp, .inl ⟨_, _, rfl, run_takeDeferred HKD.out, ?_⟩⟩
    exact ⟨_, results_cellM rfl _ _ ⟨r, 0, none⟩ (.slice Av k cv) rfl (loadVar_oneM Try.underlying24 rfl (HCR.out _)), _, rfl, HFIN.out _ rfl⟩
  case stop =>
    rintro D c pre o W' _ _ _ h _
    exact h.elim
end Go.Proofs.Ytekakelkjnhehaa
