/-
  Timers: what is over when the clock goes on, as a row. No condition.
-/
import Derived.Test.YtgcpiaogodgphaaTmrSeq
import Derived.Test.YtgcpiaogodgphaaOps
namespace Go.Proofs.Ytgcpiaogodgphaa
open Go Go.RowKit

attribute [local go_sem] Oper.semAt_some
theorem pairT_el : ElT Try.prog 41 38 2 16 := ⟨Try.underlying38, by kernel_rfl, by omega, by omega⟩
theorem pair_built (r s : Int) : Try.prog.builtSlice 41 1 [(0, .agg #[.int .i64 r, .int .i64 s])] = some #[.int .i64 r, .int .i64 s] := by kernel_rfl
theorem run_build_pair (r s : Int) (w : World) : (Instr.buildSlice 38 1 #[(0, .agg #[.int .i64 r, .int .i64 s])]).run Try.prog w = .ok (.slice (some ⟨w.heap.size, 0, none⟩) 1 1) (w.alloc (.cells #[.int .i64 r, .int .i64 s] 41)) := by
  have hf := pair_built r s
  unfold Program.builtSlice at hf
  cases hie : Try.prog.info? 41 with
  | none => simp [hie] at hf
  | some ie =>
    simp only [hie] at hf
    cases hz : ie.zero with
    | none => simp [hz] at hf
    | some z =>
      simp only [hz] at hf
      by_cases hc : 1 * ie.size > 2 ^ 24 ∨ 1 * ie.size = 0
      · rw [if_pos hc] at hf
        cases hf
      · rw [if_neg hc] at hf
        exact run_buildSlice w 38 41 1 #[(0, .agg #[.int .i64 r, .int .i64 s])] _ ie z Try.underlying38 hie hz (fun h' => hc (Or.inl h')) (fun h' => hc (Or.inr h')) hf
section
variable {F : Fence} {n : Nat} {ops : Array Oper} {rest : List Oper} {o : Oper} {a : Act} {w : World} {Q : Exit → Act → World → Prop}
theorem wpListIn_build_pair (hF : ∀ f, F.fn f) (hgd : o.guard = none) (x : Operand) (ho : o.op = .buildSlice 38 1 #[(0, x)]) (r s : Int) (hx : a.eval x = .agg #[.int .i64 r, .int .i64 s])
    (h : wpListIn F n Try.prog ops Q rest (a.put o.dst (.slice (some ⟨w.heap.size, 0, none⟩) 1 1)) (w.alloc (.cells #[.int .i64 r, .int .i64 s] 41))) : wpListIn F n Try.prog ops Q (o :: rest) a w := by
  refine wpListIn_val hF hgd (by rw [ho]; intro c hc; cases hc) _ _ ?_ h
  have hp : ((#[(0, x)] : Array (Nat × Operand)).map fun (i, x) => (i, a.eval x)) = #[(0, .agg #[.int .i64 r, .int .i64 s])] := by simp [hx]
  unfold execOp
  simp only [ho, Sem.run_bind, hp, run_build_pair, Result.andThen_ok, Sem.run_pure]
theorem pair_made (r s : Int) (w : World) : (Instr.build 41 #[(0, .int .i64 r), (1, .int .i64 s)]).run Try.prog w = .ok (.agg #[.int .i64 r, .int .i64 s]) w := by kernel_rfl
theorem wpListIn_made_pair (hF : ∀ f, F.fn f) (hgd : o.guard = none) (x y : Operand) (ho : o.op = .build 41 #[(0, x), (1, y)]) (r s : Int) (hx : a.eval x = .int .i64 r) (hy : a.eval y = .int .i64 s)
    (h : wpListIn F n Try.prog ops Q rest (a.put o.dst (.agg #[.int .i64 r, .int .i64 s])) w) : wpListIn F n Try.prog ops Q (o :: rest) a w := by
  refine wpListIn_val hF hgd (by rw [ho]; intro c hc; cases hc) _ w ?_ h
  have := pair_made r s w
  simp only [execOp, ho, List.map_toArray, List.map_cons, List.map_nil, hx, hy, Sem.run_bind]
  simp [this, Result.andThen]
theorem wpListIn_append_runT {P : Program} (hF : ∀ f, F.fn f) (hgd : o.guard = none) (s x : Operand) (t t' : TypeId) (ho : o.op = .call { callee := .builtin .append, args := #[s, x], argTypes := #[t, t'] })
    (vs vx : Value) (hs : a.eval s = vs) (hx : a.eval x = vx) (v : Value) (w' : World) (hrun : (Builtin.append_ #[t, t'] o.type #[vs, vx]).run P w = .ok v w') (h : wpListIn F n P ops Q rest (a.put o.dst v) w') : wpListIn F n P ops Q (o :: rest) a w := by
  refine wpListIn_val hF hgd (by rw [ho]; intro c hc; cases hc) v w' ?_ h
  simp [execOp, ho, resolve, invoke, builtin, hs, hx, hrun, Result.andThen]
end
def pairT (x : List Int) : List Int := [x.getD 0 0, x.getD 1 0]
theorem pairT_len (l : List (List Int)) : ∀ x ∈ l.map pairT, x.length = 2 := fun x hx => by
  obtain ⟨y, _, rfl⟩ := List.mem_map.1 hx
  rfl
/-- Between two rounds. -/
def OverI (W : World) (B g : Nat) (now : Int) (K : List (List Int)) (pre : List (List Int)) (o : Nat → Prop) (W' : World) : Prop :=
  ∃ v, Blk W' g 38 #[v] ∧ W'.ownsRow (g + 1) 41 2 v pre.length (rowC (pre.map pairT)) ∧ TimerAt W' B now K ∧ W.grownBy W' (some B) ∧ ∀ b, o b ↔ (b = g ∨ v.ownBlock = some b)
theorem overI_ab (W : World) (B g B2 : Nat) (now : Int) (K : List (List Int)) (hB : B < B2) (hW : W.heap.size ≤ B2) : AbN (fun _ => False) B2 (OverI W B g now K) where
  stay := fun s o X X' h hs => by
    obtain ⟨v, h1, h2, h3, h4, h5⟩ := h
    refine ⟨v, (hs.block g (.inr ((h5 g).2 (.inl rfl))) h1.lt).trans h1, ⟨h2.1, ?_⟩, h3.same (hs.block B (.inl ⟨hB, fun h => h⟩) h3.lt), ⟨hs.os.trans h4.os, hs.tape.trans h4.tape, hs.output.trans h4.output, Nat.le_trans h4.size hs.size, fun i hi hn => (hs.block i (.inl ⟨Nat.lt_of_lt_of_le hi hW, fun h => h⟩) (Nat.lt_of_lt_of_le hi h4.size)).trans (h4.block i hi hn)⟩, h5⟩
    rcases h2.2 with h0 | ⟨b, cap, cur, q1, q2, q3, q4⟩
    · exact .inl h0
    · refine .inr ⟨b, cap, cur, q1, q2, (hs.block b (.inr ((h5 b).2 (.inr (by rw [q1]; rfl)))) ?_).trans q3, q4⟩
      rcases Nat.lt_or_ge b X.heap.size with h' | h'
      · exact h'
      · rw [Array.getElem?_eq_none h'] at q3; cases q3
  there := fun s o X h b hb => by
    obtain ⟨v, h1, h2, h3, h4, h5⟩ := h
    rcases (h5 b).1 hb with rfl | hv
    · exact ⟨_, h1, rfl⟩
    · rcases h2.2 with ⟨rfl, _⟩ | ⟨b', cap, cur, q1, q2, q3, q4⟩
      · cases hv
      · rw [q1] at hv
        obtain rfl : b' = b := Option.some.inj hv
        exact ⟨_, q3, rfl⟩
set_option maxRecDepth 100000 in
set_option maxHeartbeats 4000000 in
theorem over_any {W : World} {B : Nat} {now : Int} {l : List (List Int)} (h : TimerAt W B now l) (hok : OkL (now + 1) l) (hnow : 0 ≤ now) :
    Calls Try.prog 13 #[.pointer (some ⟨B, 0, none⟩)] W fun e w' => ∃ v, e = .returned v ∧ RdK 2 w' w'.heap.size v ((overL (now + 1) l).map pairT) ∧ TimerAt w' B (now + 1) (keepL (now + 1) l) ∧ W.grownBy w' (some B) := by
  obtain ⟨g, hg⟩ : ∃ g, W.heap.size = g := ⟨_, rfl⟩
  obtain ⟨W1, hW1⟩ : ∃ W1, W.alloc (.cells #[.slice none 0 0] 38) = W1 := ⟨_, rfl⟩
  have hb1 : Below W.heap.size W W1 := by rw [← hW1]; exact (Below.refl _ _).alloc (Nat.le_refl _) _
  have k1 : Blk W1 g 38 #[.slice none 0 0] := by rw [← hW1, ← hg]; exact Blk.new _ _ _
  have HTK := Lib.hid (tick_any (h.below hb1) hok hnow)
  have hBg : B < g := by rw [← hg]; exact h.lt
  have hl40 : l.length ≤ 40 := by obtain ⟨F, _, _, _, h2, _⟩ := h; exact h2
  have HK1 := Lib.hid k1
  have HB1 := Lib.hid hb1
  have hz1 : W1.heap.size = g + 1 := by rw [← hW1, ← hg]; simp
  have HOL : Hid ((overL (now + 1) l).length ≤ 40) := Lib.hid (Nat.le_trans (overL_le _ _) hl40)
  clear h hok hnow hb1 k1 hl40
  refine (callsIn_wide (n := 0)).1 ?_
  refine callsIn_of_wp_marks Try.func13 rfl trivial ?_ rfl
  simp only [Try.ntmps13, List.size_toArray, List.length_cons, List.length_nil, Nat.reduceAdd, Nat.reduceSub, Array.replicate_succ, Array.replicate_zero, List.push_toArray, List.append_toArray, List.nil_append, List.cons_append]
  gi_wp2_with (first
    | (refine ⟨trivial, rfl, ?_⟩; gi_at_call 17; refine (callsIn_wide.2 HTK.out).mono ?_; rintro e W2 ⟨c2, v, rfl, hc2, hcell, hrow, hvb, htm, hgr⟩))
  have hne : ∀ b, b ≠ B → b < W1.heap.size → W2.heap[b]? = W1.heap[b]? := fun b hb hlt => hgr.block b hlt (fun e => hb (Option.some.inj e))
  have k2 : Blk W2 g 38 #[.slice none 0 0] := HK1.out.grown hgr (fun e => by have := Option.some.inj e; omega)
  have hz2 := hgr.size
  have hgW : W.grownBy W2 (some B) := grown_trans' (grown_below HB1.out _) hgr
  have hseq := tick2_seq c2 v (overL (now + 1) l) W2 hcell hrow (fun A m q hv => (hvb A m q hv).2)
  have h0 : OverI W B g (now + 1) (keepL (now + 1) l) [] (fun b => b = g) W2 := ⟨.slice none 0 0, k2, ownK_nil _ _ _ _, htm, hgW, fun b => ⟨fun h => .inl h, fun h => h.elim id (fun h => by cases h)⟩⟩
  have hfar : FarT c2 v (fun b => b = g) := ⟨by omega, fun A m q hv => by have := (hvb A m q hv).1; omega⟩
  have HWZ : Hid (W.heap.size ≤ W2.heap.size ∧ B < W2.heap.size) := Lib.hid ⟨by omega, by omega⟩
  clear hcell hrow hvb htm hgr hne k2 hgW
  refine wpIn_rangeFunc_N (gf := 21) (lb := #[.pointer (some ⟨c2, 0, none⟩)]) rfl (enters_of Try.func21 (by kernel_rfl) rfl) (M := fun _ => False) (fun b h => h.elim) hseq
    (fun x o W vs h => by rw [show vs = encT x from h]; rfl)
    (OverI W B g (now + 1) (keepL (now + 1) l)) (fun _ _ _ _ => False) (overI_ab W B g _ _ _ HWZ.out.2 HWZ.out.1) (fun c => ⟨fun _ _ _ _ h _ => h, fun _ _ _ h => h.elim⟩)
    (fun b => b = g) h0 hfar
    (fun x o a' W' => a' = { tmps := #[.pointer (some ⟨B, 0, none⟩), undef, .slice none 0 0, .pointer (some ⟨g, 0, none⟩), .int .i64 (x.getD 0 0), .int .i64 (x.getD 1 0), .pointer (some ⟨B, 0, none⟩), .func (.func 21) #[] #[.pointer (some ⟨c2, 0, none⟩)], .int .i64 (x.getD 0 0), .int .i64 (x.getD 1 0), undef, undef, undef, undef, undef, undef, undef], defers := [] })
    (fun x o a' W l b b' _ h1 h2 h3 => h3) ?assign ?body ?done ?stop
  case assign =>
    intro l' pre x vs o W' K hlt hpre hi henc hK
    obtain rfl : vs = encT x := henc
    have HKK := Lib.hid hK
    clear hi hK h0 hfar hseq
    unfold encT
    simp only [List.zip_toArray, List.zip_cons_cons, List.zip_nil_right, List.foldl_toArray, List.foldl_cons, List.foldl_nil, List.setIfInBounds_toArray, List.set_cons_zero, List.set_cons_succ]
    gi_wp2
    exact HKK.out _ _ (keepsFrom_of_below (Below.refl _ _)) (Below.refl _ _) (by first | rfl | (rw [hg]))
  case body =>
    rintro l' pre x o a' W' hl hlt hpre ⟨v', hk, hown, htm, hgr, ho⟩ rfl
    have hplen : pre.length < 40 := by
      have h1 := hpre.length_le
      have := HOL.out
      rw [List.length_append, List.length_singleton] at h1
      omega
    obtain ⟨r, hr⟩ : ∃ r, x.getD 0 0 = r := ⟨_, rfl⟩
    obtain ⟨s, hs⟩ : ∃ s, x.getD 1 0 = s := ⟨_, rfl⟩
    have hpx : pairT x = [r, s] := by unfold pairT; rw [hr, hs]
    rw [hr, hs]
    have hb6 : Below W'.heap.size W' (W'.alloc (.cells #[.int .i64 r, .int .i64 s] 41)) := (Below.refl _ _).alloc (Nat.le_refl _) _
    have hgl := hk.lt
    have hsz6 : (W'.alloc (.cells #[.int .i64 r, .int .i64 s] 41)).heap.size = W'.heap.size + 1 := by simp
    have hown6 := ownK_kept hown hb6
    obtain ⟨v2, W7, hrun2, hown2, hgr2, hob⟩ := app_k pairT_el (B := g + 1) (by omega) hown6 (rdK_new W' 41 [r, s] rfl) (by omega)
    obtain ⟨A2, n2, q2, hv2⟩ : ∃ A n c, v2 = .slice A n c := by
      rcases hown2.2 with ⟨rfl, _⟩ | ⟨g', cap, cur, rfl, _⟩
      · exact ⟨_, _, _, rfl⟩
      · exact ⟨_, _, _, rfl⟩
    subst hv2
    have hgv : some g ≠ v'.ownBlock := fun e => by have := (hown.lt g e.symm).1; omega
    have hk7 : Blk W7 g 38 #[v'] := (hk.below hb6 hgl).grown hgr2 hgv
    have c6 : W'.cell? ⟨g, 0, none⟩ = some v' := by rw [hk.cell]; rfl
    have c7 : W7.cell? ⟨g, 0, none⟩ = some v' := by rw [hk7.cell]; rfl
    have f7 : W7.frozen? ⟨g, 0, none⟩ = false := hk7.frozen 0
    have hset : ∀ b, b ≠ g → (W7.setCell ⟨g, 0, none⟩ (.slice A2 n2 q2)).heap[b]? = W7.heap[b]? := fun b hb => Below.heap_setCell _ _ _ _ hb
    have hkeep : ∀ b, b ≠ g → v'.ownBlock ≠ some b → b < W'.heap.size → (W7.setCell ⟨g, 0, none⟩ (.slice A2 n2 q2)).heap[b]? = W'.heap[b]? := fun b h1 h2 h3 => (hset b h1).trans ((hgr2.block b (by omega) (fun e => h2 e.symm)).trans (hb6.block b h3))
    have hsz7 : W'.heap.size ≤ (W7.setCell ⟨g, 0, none⟩ (.slice A2 n2 q2)).heap.size := by
      have := hgr2.size
      simp [World.setCell]
      omega
    have hBne : v'.ownBlock ≠ some B := fun e => by have := (hown.lt B e).1; omega
    have epre : (pre ++ [x]).length = pre.length + 1 := by simp
    have HFIN : Hid (ownPostM W2.heap.size o (OverI W B g (now + 1) (keepL (now + 1) l)) (fun _ _ _ _ => False) (pre ++ [x]) W' .normal (Act.mk #[] []) (W7.setCell ⟨g, 0, none⟩ (.slice A2 n2 q2))) := Lib.hid ⟨⟨hsz7, fun b ob hb1 hb2 hb3 => (hkeep b (fun e => by subst e; rw [hk] at hb2; cases hb2; cases hb3) (fun e => by
          rcases hown.2 with ⟨rfl, _⟩ | ⟨b', cap, cur, q1, _, q3, _⟩
          · cases e
          · rw [q1] at e
            obtain rfl : b' = b := Option.some.inj e
            rw [q3] at hb2
            cases hb2
            cases hb3) (Array.getElem?_eq_some_iff.1 hb2).1).trans hb2⟩,
        ⟨hsz7, fun b ob hb2 _ hn => (hkeep b (fun e => hn ((ho b).2 (.inl e))) (fun e => hn ((ho b).2 (.inr e))) (Array.getElem?_eq_some_iff.1 hb2).1).trans hb2⟩,
        fun b => b = g ∨ (Value.slice A2 n2 q2).ownBlock = some b,
        ⟨Value.slice A2 n2 q2, (hk7.store 0 _).same (by simp), ⟨by rw [epre, List.map_append, List.map_singleton, rowC_append, hpx]; exact hown2.1, by
          rw [epre, List.map_append, List.map_singleton, rowC_append, hpx]
          rcases hown2.2 with h0 | ⟨b, cap, cur, q1, q2, q3, q4⟩
          · exact .inl h0
          · exact .inr ⟨b, cap, cur, q1, q2, (hset _ (by omega)).trans q3, q4⟩⟩, htm.same (hkeep B (by omega) hBne htm.lt), ⟨((grown_setCell W7 g 0 _).os.trans (hgr2.os.trans hb6.os)).trans hgr.os, ((grown_setCell W7 g 0 _).tape.trans (hgr2.tape.trans hb6.tape)).trans hgr.tape, ((grown_setCell W7 g 0 _).output.trans (hgr2.output.trans hb6.output)).trans hgr.output, Nat.le_trans hgr.size hsz7, fun b hb hn => (hkeep b (by omega) (fun e => by have := (hown.lt b e).1; omega) (Nat.lt_of_lt_of_le hb hgr.size)).trans (hgr.block b hb hn)⟩, fun b => Iff.rfl⟩,
        fun b hb => by
          rcases hb with rfl | hb
          · exact .inl ((ho _).2 (.inl rfl))
          · rcases hob with h1 | h1
            · exact .inl ((ho b).2 (.inr (h1.symm.trans hb)))
            · right
              rw [h1] at hb
              have := Option.some.inj hb
              omega⟩
    have HR2 := Lib.hid hrun2
    clear hk hown htm hgr ho hb6 hown6 hrun2 hown2 hgr2 hob hk7 hset hkeep h0 hfar hseq hpre
    have HL6 : Hid ((Instr.loadAt 38 (.pointer (some ⟨g, 0, none⟩))).run Try.prog W' = .ok v' W') := Lib.hid (loadVar_oneT Try.underlying38 rfl c6)
    gi_wp2_with (first
      | (guard_target = wpListIn _ _ _ _ _ (Oper.mk _ (.load 38 _) _ _ _ _ :: _) _ _; refine wpListIn_load_runT rfl 38 _ rfl (.pointer (some ⟨g, 0, none⟩)) v' rfl HL6.out ?_)
      | (guard_target = wpListIn _ _ _ _ _ (Oper.mk _ (.build 41 _) _ _ _ _ :: _) _ _; refine wpListIn_made_pair (fun _ => trivial) rfl _ _ rfl r s rfl rfl ?_)
      | (guard_target = wpListIn _ _ _ _ _ (Oper.mk _ (.buildSlice _ 1 _) _ _ _ _ :: _) _ _; refine wpListIn_build_pair (fun _ => trivial) rfl _ rfl r s rfl ?_)
      | (guard_target = wpListIn _ _ _ _ _ (Oper.mk _ (.call _) _ _ _ _ :: _) _ _; refine wpListIn_append_runT (fun _ => trivial) rfl (.tmp 10) (.tmp 14) _ _ rfl _ _ rfl rfl _ _ HR2.out ?_))
    exact HFIN.out
  case done =>
    rintro D o W' hD ⟨v', hk, hown, htm, hgr, ho⟩ hK
    have c3 : W'.cell? ⟨g, 0, none⟩ = some v' := by rw [hk.cell]; rfl
    have hrd := rdK_own hown (pairT_len _) (by rw [List.length_map]) (by have := HOL.out; omega)
    have HB := Lib.hid (And.intro htm hgr)
    have HR := Lib.hid hrd
    have HK := Lib.hid hK
    have HD := Lib.hid hD
    have HGL := Lib.hid hk.lt
    clear hk hown htm hgr ho hK hrd h0 hfar hseq hD
    gi_wp2
    refine ⟨by simp, .inl ⟨_, _, rfl, run_takeDeferred HK.out, ?_⟩⟩
    have hd := HD.out
    have hwz := HWZ.out
    refine ⟨_, results_tmp rfl _ _ _, v', rfl, ?_, HB.out.1.same (World.putObj_heap_other (by omega)), ?_⟩
    · exact (HR.out.keep (o := fun _ => False) (Keep.putObj _ _ _ _ HK.out rfl) (fun _ _ _ _ h => h)).mono (by simp [World.putObj])
    · have hg2 := HB.out.2
      exact ⟨hg2.os, hg2.tape, hg2.output, by simpa [World.putObj] using hg2.size, fun i hi hn => (World.putObj_heap_other (by omega)).trans (hg2.block i hi hn)⟩
  case stop =>
    rintro D c pre o W' _ _ _ h _
    exact h.elim
end Go.Proofs.Ytgcpiaogodgphaa
