/-
  pack.readList: for all bytes: the entries, sixty-five of them at most, in new memory; or that one isn't there whole.
-/
import Derived.Test.YtkbdkeclbokhdaaDoorQ39
import Derived.Shelf.Abstract
import Derived.Shelf.RegionOpen
namespace Go.Proofs.YtkbdkeclbokhdaaDoor
open Go Go.RowKit PackMath
attribute [local go_sem] Oper.semAt_some

theorem lit22 (f : Nat → Value) : arr 22 f = #[f 0, f 1, f 2, f 3, f 4, f 5, f 6, f 7, f 8, f 9, f 10, f 11, f 12, f 13, f 14, f 15, f 16, f 17, f 18, f 19, f 20, f 21] := by
  rw [arr_list, show List.range 22 = [0, 1, 2, 3, 4, 5, 6, 7, 8, 9, 10, 11, 12, 13, 14, 15, 16, 17, 18, 19, 20, 21] from by kernel_rfl]
  rfl
/-- What readList answers. -/
def ListOut (w : World) (bs : List UInt8) (e : Ending) (w' : World) : Prop :=
  match runs bs with
  | none => e = .returned (.tuple #[.slice none 0 0, .int .i64 20])
  | some es => ∃ A n c, e = .returned (.tuple #[.slice A n c, .int .i64 0]) ∧ n = (es.take 65).length ∧ RdP w' (fun b => w.heap.size ≤ b ∧ b < w'.heap.size) A (es.take 65)
/-- What the round's registers hold of an element. -/
def AxL (B : Nat) (x : Option (List UInt8)) (o : Nat → Prop) (a' : Act) (W : World) : Prop :=
  ∃ f, a' = ⟨arr 22 f, []⟩ ∧ f 2 = .pointer (some ⟨B, 0, none⟩) ∧ f 3 = .pointer (some ⟨B + 1, 0, none⟩) ∧ f 4 = .pointer (some ⟨B + 2, 0, none⟩) ∧
    match x with
    | none => f 6 = .bool false
    | some bs => f 6 = .bool true ∧ ∃ A c, f 5 = .slice A bs.length c ∧ RdB W (fun b => b < W.heap.size ∧ ¬ o b) (.slice A bs.length c) bs
set_option maxRecDepth 100000 in
set_option maxHeartbeats 4000000 in
theorem readList_any (A : Option Addr) (c : Nat) (bs : List UInt8) (w : World) (hr : RdB w (fun b => b < w.heap.size) (.slice A bs.length c) bs) :
    CallsIn Fence.wide 0 Tryd.prog 80 #[.slice A bs.length c] w fun e w' => ListOut w bs e w' ∧ Below w.heap.size w w' := by
  obtain ⟨B, hB⟩ : ∃ B, w.heap.size = B := ⟨_, rfl⟩
  obtain ⟨n, hn⟩ : ∃ n, bs.length = n := ⟨_, rfl⟩
  have HR := Lib.hid hr
  have HN := Lib.hid hn
  rw [hn]
  clear hr hn
  refine callsIn_of_wp_marks Tryd.func80 rfl trivial ?_ rfl
  simp only [Tryd.ntmps80, List.size_toArray, List.length_cons, List.length_nil, Nat.reduceAdd, Nat.reduceSub, Array.replicate_succ, Array.replicate_zero, List.push_toArray, List.append_toArray, List.nil_append, List.cons_append]
  gi_wp2_with (first
    | (refine ⟨trivial, rfl, ?_⟩; gi_at_call 84; refine (runsIn_any _ _ _ _).mono ?_; rintro e w' ⟨rfl, rfl⟩))
  rw [show B + 1 + 1 + 1 = B + 3 from rfl, show B + 1 + 1 = B + 2 from rfl]
  have hz3 : ((((w.alloc (.cells #[.slice none 0 0] 57)).alloc (.cells #[.int .i64 0] 25)).alloc (.cells #[.slice none 0 0] 57)).alloc (.cells #[.slice A n c] 42)).heap.size = B + 4 := by simp [hB]
  have hb3 : Below B w ((((w.alloc (.cells #[.slice none 0 0] 57)).alloc (.cells #[.int .i64 0] 25)).alloc (.cells #[.slice none 0 0] 57)).alloc (.cells #[.slice A n c] 42)) := ((((Below.refl _ w).alloc (by omega) _).alloc (by simp; omega) _).alloc (by simp; omega) _).alloc (by simp; omega) _
  have k0 : Blk ((((w.alloc (.cells #[.slice none 0 0] 57)).alloc (.cells #[.int .i64 0] 25)).alloc (.cells #[.slice none 0 0] 57)).alloc (.cells #[.slice A n c] 42)) B 57 #[.slice none 0 0] := (((Blk.newAt _ _ hB rfl).alloc _).alloc _).alloc _
  have k1 : Blk ((((w.alloc (.cells #[.slice none 0 0] 57)).alloc (.cells #[.int .i64 0] 25)).alloc (.cells #[.slice none 0 0] 57)).alloc (.cells #[.slice A n c] 42)) (B + 1) 25 #[.int .i64 0] := ((Blk.newAt _ _ (by simp [hB]) rfl).alloc _).alloc _
  have k2 : Blk ((((w.alloc (.cells #[.slice none 0 0] 57)).alloc (.cells #[.int .i64 0] 25)).alloc (.cells #[.slice none 0 0] 57)).alloc (.cells #[.slice A n c] 42)) (B + 2) 57 #[.slice none 0 0] := (Blk.newAt _ _ (by simp [hB]) rfl).alloc _
  have k3 : Blk ((((w.alloc (.cells #[.slice none 0 0] 57)).alloc (.cells #[.int .i64 0] 25)).alloc (.cells #[.slice none 0 0] 57)).alloc (.cells #[.slice A n c] 42)) (B + 3) 42 #[.slice A n c] := Blk.newAt _ _ (by simp [hB]) rfl
  generalize ((((w.alloc (.cells #[.slice none 0 0] 57)).alloc (.cells #[.int .i64 0] 25)).alloc (.cells #[.slice none 0 0] 57)).alloc (.cells #[.slice A n c] 42)) = W3 at *
  have hseq := runs_seq (B + 3) B A c bs W3 (by omega) (by rw [HN.out]; exact k3) ((HR.out.kept (W' := W3) fun a x ha h => (hb3.cell (p := a) (by rw [← hB]; exact ha)).trans h).mono fun b hb => by rw [← hB]; exact hb)
  have hown0 : W3.ownsRow B 42 1 (.slice none 0 0) 0 [] := ⟨rfl, .inl ⟨rfl, rfl⟩⟩
  refine wpIn_rangeFunc_N (gf := 89) (lb := #[.pointer (some ⟨B + 3, 0, none⟩)]) rfl (enters_of Tryd.func89 (by kernel_rfl) rfl) (M := fun b => b = B + 3) (fun b hb => by omega) hseq
    (fun x o W vs h => by
      cases x with
      | none => rw [show vs = _ from h]; rfl
      | some bs => obtain ⟨A, c, rfl, _⟩ := h; rfl)
    (InvL w B) (fun c pre o W => InvX w B c pre o W ∧ ∀ b, ¬ o b) (invL_ab w B _ (by omega)) (fun c => invX_ab w B _ (by omega) c)
    (fun b => b = B + 2) ⟨[], .slice none 0 0, 0, [], rfl, k2, hown0, rfl, fun k hk => by omega, rfl, (fun g hg => by cases hg), (fun b hb => ⟨.inl hb, by rw [hb]; exact ⟨_, k2, rfl⟩⟩), k0, k1, hb3⟩ ⟨by omega, fun b hb => by omega⟩
    (AxL B)
    (fun x o a' W l b b' _ h1 h2 h3 => by
      obtain ⟨f, q1, q2, q3, q4, q5⟩ := h3
      refine ⟨f, q1, q2, q3, q4, ?_⟩
      cases x with
      | none => exact q5
      | some bs =>
        obtain ⟨q5, A, c, q6, q7⟩ := q5
        exact ⟨q5, A, c, q6, (q7.kept fun a x _ h => cell_putObj h1 h2 b' h).mono fun c hc => ⟨by simpa [World.putObj] using hc.1, hc.2⟩⟩) ?assign ?body ?done ?stop
  case assign =>
    intro l pre x vs o W K hlt hpre hi henc hK
    clear hi hown0 hseq k0 k1 k2 k3 hb3
    cases x with
    | none =>
      obtain rfl : vs = _ := henc
      gi_wp2
      exact hK _ _ (keepsFrom_of_below (Below.refl _ _)) (Below.refl _ _) ⟨_, congrArg (fun t => Act.mk t []) (arr_getD _ rfl), rfl, rfl, rfl, rfl⟩
    | some x =>
      obtain ⟨A, c, rfl, hrd⟩ := henc
      have HRD := Lib.hid hrd
      clear hrd
      gi_wp2
      exact hK _ _ (keepsFrom_of_below (Below.refl _ _)) (Below.refl _ _) ⟨_, congrArg (fun t => Act.mk t []) (arr_getD _ rfl), rfl, rfl, rfl, rfl, A, c, rfl, HRD.out⟩
  case body =>
    rintro l pre x o a' W hl hlt hpre hi ⟨f, rfl, f2, f3, f4, hx⟩
    cases x with
    | none =>
      obtain ⟨es, v, n', vs, h1, h2, h3, h4, h5, h6, h7, h8, h9, h10, h11⟩ := hi
      have c0 : W.cell? ⟨B, 0, none⟩ = some (.slice none 0 0) := by rw [h9.cell]; rfl
      have e0 := h9.frozen 0
      have s1 := h10.far (p := ⟨B, 0, none⟩) (by simp) (.slice none 0 0)
      have s0 := (h9.store 0 (.slice none 0 0)).far (p := ⟨B + 1, 0, none⟩) (by simp) (.int .i64 20)
      have s2 := s1.store 0 (.int .i64 20)
      have c1 : (W.setCell ⟨B, 0, none⟩ (.slice none 0 0)).cell? ⟨B + 1, 0, none⟩ = some (.int .i64 0) := by rw [s1.cell]; rfl
      have e1 := s1.frozen 0
      have hbf := (h11.setCell (p := ⟨B, 0, none⟩) (Nat.le_refl _) (.slice none 0 0)).setCell (p := ⟨B + 1, 0, none⟩) (by simp) (.int .i64 20)
      have hkf : KeepsFrom W3.heap.size W ((W.setCell ⟨B, 0, none⟩ (.slice none 0 0)).setCell ⟨B + 1, 0, none⟩ (.int .i64 20)) :=
        keepsFrom_trans (keepsFrom_row h9 (by simp [World.setCell]) fun b hb => Below.heap_setCell _ _ _ _ hb) (keepsFrom_row s1 (by simp [World.setCell]) fun b hb => Below.heap_setCell _ _ _ _ hb)
      have HP : Hid (KeepsFrom W3.heap.size W ((W.setCell ⟨B, 0, none⟩ (.slice none 0 0)).setCell ⟨B + 1, 0, none⟩ (.int .i64 20)) ∧ ∃ o' : Nat → Prop, InvX w B .ret (pre ++ [none]) o' ((W.setCell ⟨B, 0, none⟩ (.slice none 0 0)).setCell ⟨B + 1, 0, none⟩ (.int .i64 20)) ∧ ∀ b, ¬ o' b) :=
        Lib.hid ⟨hkf, fun _ => False, ⟨rfl, ⟨es, by rw [h1]⟩, s0, s2, hbf⟩, fun _ h => h⟩
      have f6 : f 6 = .bool false := hx
      rw [lit22, f2, f3, f4, f6]
      clear h1 h2 h3 h4 h5 h6 h7 h8 h9 h10 h11 s0 s1 s2 hbf hkf hown0 hseq k0 k1 k2 k3 hb3 hx f2 f3 f4 f6
      gi_wp2
      exact HP.out
    | some x =>
      obtain ⟨hx6, A1, c1, hx5, hrd⟩ := hx
      obtain ⟨es, v, n', vs, h1, h2, h3, h4, h5, h6, h7, h8, h9, h10, h11⟩ := hi
      obtain ⟨Av, cv, rfl⟩ : ∃ Av cv, v = .slice Av n' cv := by
        rcases ownsRow_forms' h3 with ⟨h, h0⟩ | ⟨g, cap, h⟩
        · exact ⟨none, 0, by rw [h, h0]⟩
        · exact ⟨_, _, h⟩
      have cL : W.cell? ⟨B + 2, 0, none⟩ = some (.slice Av n' cv) := by rw [h2.cell]; rfl
      have hvs := h3.1
      rw [Nat.mul_one] at hvs
      have h65 : n' ≤ 65 := by rw [h4, List.length_take]; omega
      obtain ⟨m, hm⟩ : ∃ m, x.length = m := ⟨_, rfl⟩
      rw [hm] at hrd hx5
      rw [lit22, f2, f3, f4, hx5, hx6]
      clear f2 f3 f4 hx5 hx6 hown0 hseq k0 k1 k2 k3 hb3
      by_cases hn64 : n' ≤ 64
      · have hes : es.length = n' := by rw [List.length_take] at h4; omega
        have d64 : (n' : Int) ≤ 64 := by omega
        have hgl := h2.lt
        have HC := Lib.hid (bclone_any A1 c1 x W.drew (by rw [hm]; exact hrd.mono fun b hb => hb.1))
        rw [hm] at HC
        have cD : W.drew.cell? ⟨B + 2, 0, none⟩ = some (.slice Av n' cv) := cL
        have HPOST : Hid (∀ (w1 : World) (A' : Option Addr) (c' : Nat), RdB w1 (fun b => W.heap.size ≤ b ∧ b < w1.heap.size) (.slice A' m c') x → Below W.heap.size W.drew w1 →
            (w1.cell? ⟨B + 2, 0, none⟩ = some (.slice Av n' cv)) ∧ ((w1.alloc (.cells #[.slice A' m c'] 42)).cell? ⟨B + 2, 0, none⟩ = some (.slice Av n' cv)) ∧
            ∃ g cap w2, (Builtin.append_ #[57, 57] 57 #[.slice Av n' cv, .slice (some ⟨w1.heap.size, 0, none⟩) 1 1]).run Tryd.prog (w1.alloc (.cells #[.slice A' m c'] 42)) = .ok (.slice (some ⟨g, 0, none⟩) (n' + 1) cap) w2 ∧
              w2.cell? ⟨B + 2, 0, none⟩ = some (.slice Av n' cv) ∧ w2.frozen? ⟨B + 2, 0, none⟩ = false ∧
              ∀ v2, v2 = Value.slice (some ⟨g, 0, none⟩) (n' + 1) cap → KeepsFrom W3.heap.size W (w2.setCell ⟨B + 2, 0, none⟩ v2) ∧ Keep o W (w2.setCell ⟨B + 2, 0, none⟩ v2) ∧ ∃ o', InvL w B (pre ++ [some x]) o' (w2.setCell ⟨B + 2, 0, none⟩ v2) ∧ Goes o o' W) := Lib.hid (by
          intro w1 A' c' hr1 hb1
          have hs1 : W.heap.size ≤ w1.heap.size := hb1.size
          have hG1 : W.grownBy w1 (Value.slice Av n' cv).ownBlock := ⟨hb1.os, hb1.tape, hb1.output, hb1.size, fun b hb _ => hb1.block b hb⟩
          have hGa : W.grownBy (w1.alloc (.cells #[.slice A' m c'] 42)) (Value.slice Av n' cv).ownBlock := grown_trans hG1 (grown_alloc _ _ _) (.inl rfl)
          have hne : ∀ g, (Value.slice Av n' cv).ownBlock = some g → g < W.heap.size ∧ B + 4 ≤ g ∧ o g := fun g hg => by
            obtain ⟨ho, hg2⟩ := h7 g hg
            obtain ⟨hor, y, hy, _⟩ := h8 g ho
            exact ⟨(Array.getElem?_eq_some_iff.1 hy).1, hor.resolve_left hg2, ho⟩
          have hBa : B ≤ w1.heap.size + 1 := by omega
          have hown1 : (w1.alloc (.cells #[.slice A' m c'] 42)).ownsRow B 42 1 (.slice Av n' cv) n' vs := ownsRow_block h3 fun g hg => by
            rw [Below.heap_alloc _ _ _ (by have := (hne g hg).1; omega)]
            exact hb1.block g (hne g hg).1
          obtain ⟨g, cap, w2, run2, own2, hg2, hgc⟩ := app_val (by simp; omega) hown1 (.slice A' m c') rfl (Blk.new w1 _ _) (by omega)
          have hG2 : W.grownBy w2 (Value.slice Av n' cv).ownBlock := grown_trans hGa hg2 (.inl rfl)
          have hgc' : ((Value.slice Av n' cv).ownBlock = some g ∧ g < W.heap.size ∧ B + 4 ≤ g ∧ o g) ∨ g = w1.heap.size + 1 := hgc.imp (fun h => ⟨h, hne g h⟩) (fun h => by rw [h]; simp)
          have hgB : g ≠ B + 2 := by rcases hgc' with h | h <;> omega
          have hrow : some (B + 2) ≠ (Value.slice Av n' cv).ownBlock := fun e => (h7 _ e.symm).2 rfl
          have kL : Blk w2 (B + 2) 57 #[.slice Av n' cv] := h2.grown hG2 hrow
          have kL1 : Blk w1 (B + 2) 57 #[.slice Av n' cv] := h2.grown hG1 hrow
          have k9 : Blk w2 B 57 #[.slice none 0 0] := h9.grown hG2 fun e => by have := (hne _ e.symm).2.1; omega
          have k10 : Blk w2 (B + 1) 25 #[.int .i64 0] := h10.grown hG2 fun e => by have := (hne _ e.symm).2.1; omega
          refine ⟨by rw [kL1.cell]; rfl, by rw [(kL1.alloc _).cell]; rfl, g, cap, w2, run2, by rw [kL.cell]; rfl, kL.frozen 0, ?_⟩
          rintro v2 rfl
          have hs2 : w1.heap.size + 1 ≤ w2.heap.size := by have := hg2.size; simpa using this
          have hsz : (w2.setCell ⟨B + 2, 0, none⟩ (.slice (some ⟨g, 0, none⟩) (n' + 1) cap)).heap.size = w2.heap.size := by simp [World.setCell]
          have hoth : ∀ b, b ≠ B + 2 → (w2.setCell ⟨B + 2, 0, none⟩ (.slice (some ⟨g, 0, none⟩) (n' + 1) cap)).heap[b]? = w2.heap[b]? := fun b hb => Below.heap_setCell _ _ _ _ hb
          obtain ⟨csg, hcsg⟩ := ownsRow_cells own2
          refine ⟨keepsFrom_trans (keepsFrom_grown' hG2 fun g hg => (h8 g (h7 g hg).1).2) (keepsFrom_row kL (by simp [World.setCell]) hoth), (keep_grown' hG2 fun g hg => (h7 g hg).1).trans (Keep.setCell _ _ _ h6),
            fun b => (o b ∧ some b ≠ (Value.slice Av n' cv).ownBlock) ∨ b = g ∨ (W.heap.size ≤ b ∧ b < w1.heap.size ∧ ∃ y, w1.heap[b]? = some y ∧ y.isCells = true), ⟨es ++ [x], .slice (some ⟨g, 0, none⟩) (n' + 1) cap, n' + 1, vs ++ [.slice A' m c'], by rw [h1]; simp, (kL.store 0 _).same rfl, ?_, ?_, ?_, .inl ⟨h6, hrow⟩, ?_, ?_, k9.far (by simp) _, k10.far (by simp) _, ?_⟩, ?_⟩
          · exact ownsRow_block own2 fun b hb => by
              simp only [Value.ownBlock, Option.some.injEq] at hb
              subst hb
              exact hoth _ hgB
          · rw [List.length_take, List.length_append, hes, List.length_singleton]
            omega
          · intro k hk
            by_cases hkn : k < n'
            · rw [show (vs ++ [Value.slice A' m c']).getD k undef = vs.getD k undef from by simp only [List.getD_eq_getElem?_getD]; rw [List.getElem?_append_left (by omega)], show (es ++ [x]).getD k [] = es.getD k [] from by simp only [List.getD_eq_getElem?_getD]; rw [List.getElem?_append_left (by omega)]]
              refine ((h5 k hkn).kept fun a y ha hy => ?_).mono fun b hb => ⟨.inl ⟨hb.1, hb.2.2⟩, hb.2.1, fun e => ?_⟩
              · exact (World.cell?_of_block (hoth _ ha.2.1)).trans (hG2.cell hy ha.2.2)
              · simp only [Value.ownBlock, Option.some.injEq] at e
                obtain ⟨_, y, hy, _⟩ := h8 b hb.1
                have hbl := (Array.getElem?_eq_some_iff.1 hy).1
                rcases hgc' with h | h
                · exact hb.2.2 (by rw [e]; exact h.1.symm)
                · omega
            · obtain rfl : k = n' := by omega
              rw [show (vs ++ [Value.slice A' m c']).getD k undef = .slice A' m c' from by simp only [List.getD_eq_getElem?_getD]; rw [List.getElem?_append_right (by omega), hvs, Nat.sub_self]; rfl, show (es ++ [x]).getD k [] = x from by simp only [List.getD_eq_getElem?_getD]; rw [List.getElem?_append_right (by omega), hes, Nat.sub_self]; rfl]
              refine (hr1.lies.kept fun a y ha hy => ?_).mono fun b hb => ⟨.inr (.inr ⟨hb.1.1, hb.1.2, hb.2.2⟩), by have := hb.1.1; omega, fun e => ?_⟩
              · have hal : a.block < w1.heap.size := ha.1.2
                have haW : W.heap.size ≤ a.block := ha.1.1
                refine (World.cell?_of_block (hoth _ (by omega))).trans (hg2.cell ((World.cell?_of_block (Below.heap_alloc _ _ _ hal)).trans hy) fun e => ?_)
                have := (hne _ e.symm).1
                omega
              · simp only [Value.ownBlock, Option.some.injEq] at e
                have := hb.1
                rcases hgc' with h | h <;> omega
          · intro g' hg'
            simp only [Value.ownBlock, Option.some.injEq] at hg'
            subst hg'
            exact ⟨.inr (.inl rfl), hgB⟩
          · intro b hb
            rcases hb with ⟨hb, er⟩ | rfl | ⟨hb1', hb2, y, hy, hyc⟩
            · obtain ⟨hor, y, hy, hyc⟩ := h8 b hb
              refine ⟨hor, ?_⟩
              by_cases e : b = B + 2
              · subst e
                exact ⟨_, (kL.store 0 _), rfl⟩
              · rw [hoth b e]
                exact ⟨y, (hG2.block b (Array.getElem?_eq_some_iff.1 hy).1 er).trans hy, hyc⟩
            · refine ⟨.inr (by rcases hgc' with h | h <;> omega), ?_⟩
              rw [hoth b hgB]
              exact ⟨_, hcsg, rfl⟩
            · refine ⟨.inr (by have := h11.size; omega), y, ?_, hyc⟩
              rw [hoth b (by omega), hg2.block b (by simp; omega) (fun e => by have := (hne _ e.symm).1; omega), Below.heap_alloc _ _ _ hb2]
              exact hy
          · exact (h11.grown hG2 (by omega) fun k hk => by have := (hne k hk).2.1; omega).setCell (by simp) _
          · intro b hb
            rcases hb with hb | rfl | hb
            · exact .inl hb.1
            · rcases hgc' with h | h
              · exact .inl h.2.2.2
              · right; omega
            · exact .inr hb.1)
        clear h1 h2 h3 h4 h5 h6 h7 h8 h9 h10 h11 hrd hvs hes h65 hgl
        have hmix : Tryd.prog.follows .mixedOrders = true := by kernel_rfl
        gi_wp2
        refine wpIn_region_any (by assumption) ?_
        try (change wpAnyIn _ _ _ _ _ _ _ _ _ (World.drew _))
        refine wpAnyIn_ready (rs := [0, 1]) (by kernel_rfl) (by simp) ?_
        refine AllReadyIn.cons rfl (fun K hK => ?_) ?_
        · go_simp; refine hK _ _ ?_; clear hK K
          refine wpAnyIn_ready (rs := [1]) (by kernel_rfl) (by simp) ?_
          refine AllReadyIn.cons rfl (fun K hK => ?_) ?_
          · go_simp; refine hK _ _ ?_; clear hK K
            refine wpAnyIn_ready (rs := [2]) (by kernel_rfl) (by simp) ?_
            refine AllReadyIn.cons rfl (fun K hK => ?_) ?_
            · go_simp; gi_wp2_with (refine ⟨trivial, rfl, ?_⟩; gi_at_call 78; refine (CallsIn.inRound l (callsIn_wide.2 HC.out)).mono ?_; rintro e w1 ⟨A', c', rfl, hrd', hb1⟩; obtain ⟨q1, q2, g, cap, w2, run2, q3, q4, hpost⟩ := HPOST.out w1 A' c' hrd' hb1; have R2 := Lib.hid run2; have HP2 := Lib.hid hpost; clear hrd' hb1 run2 hpost); try (refine hK _ _ ?_); clear hK K
              refine wpAnyIn_ready (rs := [3]) (by kernel_rfl) (by simp) ?_
              refine AllReadyIn.cons rfl (fun K hK => ?_) ?_
              · go_simp; refine hK _ _ ?_; clear hK K
                refine wpAnyIn_ready (rs := [4]) (by kernel_rfl) (by simp) ?_
                refine AllReadyIn.cons rfl (fun K hK => ?_) ?_
                · rw [if_pos (by rfl)]; refine operIn_app (fun _ => trivial) (.tmp 16) (.tmp 19) _ _ rfl _ _ rfl rfl _ _ R2.out ?_; refine hK _ _ ?_; clear hK K
                  refine wpAnyIn_ready (rs := [5]) (by kernel_rfl) (by simp) ?_
                  refine AllReadyIn.cons rfl (fun K hK => ?_) ?_
                  · go_simp; refine hK _ _ ?_; clear hK K
                    refine wpAnyIn_done (by kernel_rfl) ?_ _
                    exact HP2.out _ rfl
                  exact AllReadyIn.nil
                exact AllReadyIn.nil
              exact AllReadyIn.nil
            exact AllReadyIn.nil
          exact AllReadyIn.nil
        refine AllReadyIn.cons rfl (fun K hK => ?_) ?_
        · go_simp; refine hK _ _ ?_; clear hK K
          refine wpAnyIn_ready (rs := [0, 2]) (by kernel_rfl) (by simp) ?_
          refine AllReadyIn.cons rfl (fun K hK => ?_) ?_
          · go_simp; refine hK _ _ ?_; clear hK K
            refine wpAnyIn_ready (rs := [2]) (by kernel_rfl) (by simp) ?_
            refine AllReadyIn.cons rfl (fun K hK => ?_) ?_
            · go_simp; gi_wp2_with (refine ⟨trivial, rfl, ?_⟩; gi_at_call 78; refine (CallsIn.inRound l (callsIn_wide.2 HC.out)).mono ?_; rintro e w1 ⟨A', c', rfl, hrd', hb1⟩; obtain ⟨q1, q2, g, cap, w2, run2, q3, q4, hpost⟩ := HPOST.out w1 A' c' hrd' hb1; have R2 := Lib.hid run2; have HP2 := Lib.hid hpost; clear hrd' hb1 run2 hpost); try (refine hK _ _ ?_); clear hK K
              refine wpAnyIn_ready (rs := [3]) (by kernel_rfl) (by simp) ?_
              refine AllReadyIn.cons rfl (fun K hK => ?_) ?_
              · go_simp; refine hK _ _ ?_; clear hK K
                refine wpAnyIn_ready (rs := [4]) (by kernel_rfl) (by simp) ?_
                refine AllReadyIn.cons rfl (fun K hK => ?_) ?_
                · rw [if_pos (by rfl)]; refine operIn_app (fun _ => trivial) (.tmp 16) (.tmp 19) _ _ rfl _ _ rfl rfl _ _ R2.out ?_; refine hK _ _ ?_; clear hK K
                  refine wpAnyIn_ready (rs := [5]) (by kernel_rfl) (by simp) ?_
                  refine AllReadyIn.cons rfl (fun K hK => ?_) ?_
                  · go_simp; refine hK _ _ ?_; clear hK K
                    refine wpAnyIn_done (by kernel_rfl) ?_ _
                    exact HP2.out _ rfl
                  exact AllReadyIn.nil
                exact AllReadyIn.nil
              exact AllReadyIn.nil
            exact AllReadyIn.nil
          refine AllReadyIn.cons rfl (fun K hK => ?_) ?_
          · go_simp; gi_wp2_with (refine ⟨trivial, rfl, ?_⟩; gi_at_call 78; refine (CallsIn.inRound l (callsIn_wide.2 HC.out)).mono ?_; rintro e w1 ⟨A', c', rfl, hrd', hb1⟩; obtain ⟨q1, q2, g, cap, w2, run2, q3, q4, hpost⟩ := HPOST.out w1 A' c' hrd' hb1; have R2 := Lib.hid run2; have HP2 := Lib.hid hpost; clear hrd' hb1 run2 hpost); try (refine hK _ _ ?_); clear hK K
            refine wpAnyIn_ready (rs := [0, 3]) (by kernel_rfl) (by simp) ?_
            refine AllReadyIn.cons rfl (fun K hK => ?_) ?_
            · go_simp; refine hK _ _ ?_; clear hK K
              refine wpAnyIn_ready (rs := [3]) (by kernel_rfl) (by simp) ?_
              refine AllReadyIn.cons rfl (fun K hK => ?_) ?_
              · go_simp; refine hK _ _ ?_; clear hK K
                refine wpAnyIn_ready (rs := [4]) (by kernel_rfl) (by simp) ?_
                refine AllReadyIn.cons rfl (fun K hK => ?_) ?_
                · rw [if_pos (by rfl)]; refine operIn_app (fun _ => trivial) (.tmp 16) (.tmp 19) _ _ rfl _ _ rfl rfl _ _ R2.out ?_; refine hK _ _ ?_; clear hK K
                  refine wpAnyIn_ready (rs := [5]) (by kernel_rfl) (by simp) ?_
                  refine AllReadyIn.cons rfl (fun K hK => ?_) ?_
                  · go_simp; refine hK _ _ ?_; clear hK K
                    refine wpAnyIn_done (by kernel_rfl) ?_ _
                    exact HP2.out _ rfl
                  exact AllReadyIn.nil
                exact AllReadyIn.nil
              exact AllReadyIn.nil
            refine AllReadyIn.cons rfl (fun K hK => ?_) ?_
            · go_simp; refine hK _ _ ?_; clear hK K
              refine wpAnyIn_ready (rs := [0]) (by kernel_rfl) (by simp) ?_
              refine AllReadyIn.cons rfl (fun K hK => ?_) ?_
              · go_simp; refine hK _ _ ?_; clear hK K
                refine wpAnyIn_ready (rs := [4]) (by kernel_rfl) (by simp) ?_
                refine AllReadyIn.cons rfl (fun K hK => ?_) ?_
                · rw [if_pos (by rfl)]; refine operIn_app (fun _ => trivial) (.tmp 16) (.tmp 19) _ _ rfl _ _ rfl rfl _ _ R2.out ?_; refine hK _ _ ?_; clear hK K
                  refine wpAnyIn_ready (rs := [5]) (by kernel_rfl) (by simp) ?_
                  refine AllReadyIn.cons rfl (fun K hK => ?_) ?_
                  · go_simp; refine hK _ _ ?_; clear hK K
                    refine wpAnyIn_done (by kernel_rfl) ?_ _
                    exact HP2.out _ rfl
                  exact AllReadyIn.nil
                exact AllReadyIn.nil
              exact AllReadyIn.nil
            exact AllReadyIn.nil
          exact AllReadyIn.nil
        exact AllReadyIn.nil
      · have e65 : n' = 65 := by omega
        subst e65
        have hle : 65 ≤ es.length := by rw [List.length_take] at h4; omega
        have HI : Hid (InvL w B (pre ++ [some x]) o W) := Lib.hid ⟨es ++ [x], _, 65, vs, by rw [h1]; simp, h2, h3, by rw [List.length_take, List.length_append]; omega, fun k hk => by
          rw [show (es ++ [x]).getD k [] = es.getD k [] from by simp only [List.getD_eq_getElem?_getD]; rw [List.getElem?_append_left (by omega)]]
          exact h5 k hk, h6, h7, h8, h9, h10, h11⟩
        clear h1 h2 h3 h4 h5 h6 h7 h8 h9 h10 h11 hrd hvs hle h65
        gi_wp2
        exact ⟨keepsFrom_of_below (Below.refl _ _), Keep.refl _ _, o, HI.out, fun b hb => .inl hb⟩
  case done =>
    rintro D o W hD ⟨es, v, n', vs, h1, h2, h3, h4, h5, h6, h7, h8, h9, h10, h11⟩ hK
    have cL : W.cell? ⟨B + 2, 0, none⟩ = some v := by rw [h2.cell]; rfl
    have c0 : W.cell? ⟨B, 0, none⟩ = some (.slice none 0 0) := by rw [h9.cell]; rfl
    have e0 := h9.frozen 0
    have s1 := h10.far (p := ⟨B, 0, none⟩) (by simp) v
    have s0 := (h9.store 0 v).far (p := ⟨B + 1, 0, none⟩) (by simp) (.int .i64 0)
    have s2 := s1.store 0 (.int .i64 0)
    have c1 : (W.setCell ⟨B, 0, none⟩ v).cell? ⟨B + 1, 0, none⟩ = some (.int .i64 0) := by rw [s1.cell]; rfl
    have e1 := s1.frozen 0
    obtain ⟨Av, cv, rfl⟩ : ∃ Av cv, v = .slice Av n' cv := by
      rcases ownsRow_forms' h3 with ⟨h, h0⟩ | ⟨g, cap, h⟩
      · exact ⟨none, 0, by rw [h, h0]⟩
      · exact ⟨_, _, h⟩
    have hDl : D < W.heap.size := (Array.getElem?_eq_some_iff.1 hK).1
    have hK2 : ((W.setCell ⟨B, 0, none⟩ (.slice Av n' cv)).setCell ⟨B + 1, 0, none⟩ (.int .i64 0)).heap[D]? = some (.deferred (some [])) :=
      (Below.heap_setCell _ ⟨B + 1, 0, none⟩ _ _ (by simp; omega)).trans ((Below.heap_setCell _ ⟨B, 0, none⟩ _ _ (by simp; omega)).trans hK)
    have hbf := (h11.setCell (p := ⟨B, 0, none⟩) (Nat.le_refl _) (.slice Av n' cv)).setCell (p := ⟨B + 1, 0, none⟩) (by simp) (.int .i64 0)
    have HD := Lib.hid hK2
    have HP : Hid (∀ W', W' = (((W.setCell ⟨B, 0, none⟩ (.slice Av n' cv)).setCell ⟨B + 1, 0, none⟩ (.int .i64 0)).putObj D (.deferred none)) → W'.cell? ⟨B, 0, none⟩ = some (.slice Av n' cv) ∧ W'.cell? ⟨B + 1, 0, none⟩ = some (.int .i64 0) ∧ ListOut w bs (.returned (.tuple #[.slice Av n' cv, .int .i64 0])) W' ∧ Below w.heap.size w W') := Lib.hid (by
      rintro W' rfl
      have hsz : (((W.setCell ⟨B, 0, none⟩ (.slice Av n' cv)).setCell ⟨B + 1, 0, none⟩ (.int .i64 0)).putObj D (.deferred none)).heap.size = W.heap.size := by simp [World.putObj, World.setCell]
      have hk : ∀ (a : Addr) (x : Value), a.block ≠ B → a.block ≠ B + 1 → W.cell? a = some x → (((W.setCell ⟨B, 0, none⟩ (.slice Av n' cv)).setCell ⟨B + 1, 0, none⟩ (.int .i64 0)).putObj D (.deferred none)).cell? a = some x := fun a x n0 n1 hx =>
        cell_putObj hK2 rfl _ ((World.cell?_of_block (Below.heap_setCell _ ⟨B + 1, 0, none⟩ _ _ n1)).trans ((World.cell?_of_block (Below.heap_setCell _ ⟨B, 0, none⟩ _ _ n0)).trans hx))
      refine ⟨cell_putObj hK2 rfl _ (by rw [s0.cell]; rfl), cell_putObj hK2 rfl _ (by rw [s2.cell]; rfl), ?_, below_putObj (by rw [hB]; exact hbf) _ (by have := hb3.size; omega)⟩
      unfold ListOut
      rw [steps_some_only h1]
      refine ⟨Av, n', cv, rfl, h4, fun k hk' => ?_⟩
      rw [← h4] at hk'
      have hvs : vs.length = n' := by have := h3.1; rwa [Nat.mul_one] at this
      rcases h3.2 with ⟨h, h0⟩ | ⟨g, cap, cur, hv, hgB, hgg, _⟩
      · omega
      · injection hv with hv1 hv2 hv3
        subst hv1
        obtain ⟨ho, hgne⟩ := h7 g rfl
        obtain ⟨hor, y, hy, _⟩ := h8 g ho
        refine ⟨⟨g, 0, none⟩, vs.getD k undef, rfl, ⟨by rw [hB]; exact hgB, by rw [hsz]; exact (Array.getElem?_eq_some_iff.1 hy).1⟩, ?_, ?_⟩
        · refine hk _ _ (by rw [block_add]; show g ≠ B; omega) (by rw [block_add]; show g ≠ B + 1; omega) (h3.cells (g := g) rfl k _ ?_)
          rw [List.getD_eq_getElem?_getD, List.getElem?_eq_getElem (by omega)]
          rfl
        · rw [show (es.take 65).getD k [] = es.getD k [] from by simp only [List.getD_eq_getElem?_getD]; rw [List.getElem?_take_of_lt (by rw [List.length_take] at h4; omega)]]
          refine ((h5 k hk').kept fun a x ha hx => ?_).mono fun b hb => ?_
          · have := (h8 _ ha.1).1
            exact hk a x (by omega) (by omega) hx
          · obtain ⟨hor, y, hy, _⟩ := h8 b hb.1
            exact ⟨by rw [hB]; omega, by rw [hsz]; exact (Array.getElem?_eq_some_iff.1 hy).1⟩)
    clear h1 h2 h3 h4 h5 h6 h7 h8 h9 h10 h11 s0 s1 s2 hbf hown0 hseq k0 k1 k2 k3 hb3 hDl hK hK2
    gi_wp2
    refine ⟨by simp, .inl ⟨_, _, rfl, run_takeDeferred HD.out, ?_⟩⟩
    obtain ⟨q0, q1, q2, q3⟩ := HP.out _ rfl
    exact ⟨_, results_cells (p := 2) (q := 3) rfl _ _ ⟨B, 0, none⟩ ⟨B + 1, 0, none⟩ _ _ rfl rfl (run_loadVar_cell Tryd.underlying57 rfl q0) (run_loadVar_cell Tryd.underlying25 rfl q1), q2, q3⟩
  case stop =>
    rintro D c' pre o W hD hpre hne ⟨⟨rfl, ⟨es, hes⟩, hB0, hB1, hb⟩, _⟩ hK
    have HD := Lib.hid hK
    have hD2 : B ≤ D := by have := hb3.size; omega
    clear hown0 hseq k0 k1 k2 k3 hb3
    gi_wp2
    refine ⟨by simp, .inl ⟨_, _, rfl, run_takeDeferred HD.out, ?_⟩⟩
    refine ⟨_, results_cells (p := 2) (q := 3) rfl _ _ ⟨B, 0, none⟩ ⟨B + 1, 0, none⟩ _ _ rfl rfl (run_loadVar_cell Tryd.underlying57 rfl (cell_putObj HD.out rfl _ (by rw [hB0.cell]; rfl))) (run_loadVar_cell Tryd.underlying25 rfl (cell_putObj HD.out rfl _ (by rw [hB1.cell]; rfl))), ?_, below_putObj (by rw [hB]; exact hb) _ (by rw [hB]; exact hD2)⟩
    unfold ListOut
    rw [steps_none_in hpre (by rw [hes]; simp)]
    rfl
end Go.Proofs.YtkbdkeclbokhdaaDoor
