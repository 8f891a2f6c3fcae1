/-
  TimerOrder: walked. No condition.
-/
import Derived.Test.YtgcpiaogodgphaaTmrNum
namespace Go.Proofs.Ytgcpiaogodgphaa
open Go Go.RowKit
attribute [local go_sem] Oper.semAt_some

theorem Blk.putObjT {W : World} {g l : Nat} {t : TypeId} {cs : Array Value} {o : Obj} (h : Blk W g t cs) (o' : Obj) (hl : W.heap[l]? = some o) (ho : o.isCells = false) : Blk (W.putObj l o') g t cs := by
  refine (World.putObj_heap_other ?_).trans h
  rintro rfl
  unfold Blk at h
  rw [h] at hl
  cases hl
  cases ho
theorem results_one {P : Program} {fn : Func} {p : Tmp} {ty : TypeId} {d : TypeDesc} (h : fn.results = #[.cell p ty]) (tmps : Array Value) (w : World) (a : Addr) (x : Value)
    (hp : tmps.getD p undef = .pointer (some a)) (hu : P.underlying ty = some d) (hd : (match d with | .struct _ | .array _ _ => true | _ => false) = false) (hc : w.cell? a = some x) :
    (results fn tmps).run P w = .ok x w := by
  have hp' : tmps[p]?.getD undef = .pointer (some a) := by simpa using hp
  simp [results, h, hp', asAddr, loadVar_oneT (P := P) hu hd hc]
/-- The boxes of the arguments, and of the result. -/
structure Box4 (W : World) (b : Nat) (v : Value) (ρ μ : Int) : Prop where
  k0 : Blk W b 46 #[v]
  k1 : Blk W (b + 1) 3 #[.int .i64 ρ]
  k2 : Blk W (b + 1 + 1) 3 #[.int .i64 μ]
  res : Blk W (b + 1 + 1 + 1) 4 #[.bool false]
theorem Box4.below {W W' : World} {b : Nat} {v : Value} {ρ μ : Int} (h : Box4 W b v ρ μ) (hb : Below W.heap.size W W') : Box4 W' b v ρ μ := ⟨h.k0.below hb h.k0.lt, h.k1.below hb h.k1.lt, h.k2.below hb h.k2.lt, h.res.below hb h.res.lt⟩
theorem Box4.belowB {W W' : World} {b B : Nat} {v : Value} {ρ μ : Int} (h : Box4 W b v ρ μ) (hb : Below B W W') (hB : b + 1 + 1 + 1 < B) : Box4 W' b v ρ μ := ⟨h.k0.below hb (by omega), h.k1.below hb (by omega), h.k2.below hb (by omega), h.res.below hb hB⟩
theorem Box4.c0 {W : World} {b : Nat} {v : Value} {ρ μ : Int} (h : Box4 W b v ρ μ) : W.cell? ⟨b, 0, none⟩ = some v := by rw [h.k0.cell]; rfl
theorem Box4.c1 {W : World} {b : Nat} {v : Value} {ρ μ : Int} (h : Box4 W b v ρ μ) : W.cell? ⟨b + 1, 0, none⟩ = some (.int .i64 ρ) := by rw [h.k1.cell]; rfl
theorem Box4.c2 {W : World} {b : Nat} {v : Value} {ρ μ : Int} (h : Box4 W b v ρ μ) : W.cell? ⟨b + 1 + 1, 0, none⟩ = some (.int .i64 μ) := by rw [h.k2.cell]; rfl
theorem Box4.grown {W W' : World} {b g : Nat} {v : Value} {ρ μ : Int} (h : Box4 W b v ρ μ) (hg : W.grownBy W' (some g)) (hb : b + 1 + 1 + 1 < g) : Box4 W' b v ρ μ :=
  ⟨h.k0.grown hg (fun e => by have := Option.some.inj e; omega), h.k1.grown hg (fun e => by have := Option.some.inj e; omega), h.k2.grown hg (fun e => by have := Option.some.inj e; omega), h.res.grown hg (fun e => by have := Option.some.inj e; omega)⟩
theorem box4_new (w : World) (A : Option Addr) (n c : Nat) (ρ μ : Int) : Box4 ((((w.alloc (.cells #[.slice A n c] 46)).alloc (.cells #[.int .i64 ρ] 3)).alloc (.cells #[.int .i64 μ] 3)).alloc (.cells #[.bool false] 4)) w.heap.size (.slice A n c) ρ μ ∧ Below w.heap.size w ((((w.alloc (.cells #[.slice A n c] 46)).alloc (.cells #[.int .i64 ρ] 3)).alloc (.cells #[.int .i64 μ] 3)).alloc (.cells #[.bool false] 4)) ∧ ((((w.alloc (.cells #[.slice A n c] 46)).alloc (.cells #[.int .i64 ρ] 3)).alloc (.cells #[.int .i64 μ] 3)).alloc (.cells #[.bool false] 4)).heap.size = w.heap.size + 4 :=
  ⟨⟨(((Blk.new w _ _).alloc _).alloc _).alloc _, ((Blk.newAt _ _ (by simp) rfl).alloc _).alloc _, (Blk.newAt _ _ (by simp) rfl).alloc _, Blk.newAt _ _ (by simp) rfl⟩, ((((Below.refl _ _).alloc (Nat.le_refl _) _).alloc (by simp) _).alloc (by simp; omega) _).alloc (by simp; omega) _, by simp⟩
def ordL (L : List Int) (ρ : Int) (j : Nat) : List (List Int) := (L.take j).map fun s => [ρ, s, 0]
theorem ordL_next {L : List Int} {ρ : Int} {j : Nat} {s : Int} (h : L[j]? = some s) : ordL L ρ (j + 1) = ordL L ρ j ++ [[ρ, s, 0]] := by
  unfold ordL
  rw [List.take_add_one, h, List.map_append]
  rfl
theorem ordL_len (L : List Int) (ρ : Int) (j : Nat) (h : j ≤ L.length) : (ordL L ρ j).length = j := by
  unfold ordL
  rw [List.length_map, List.length_take]
  omega
theorem mem_ordL {L : List Int} {ρ : Int} {j : Nat} {x : List Int} (h : x ∈ ordL L ρ j) : x.getD 0 0 = ρ ∧ x.getD 2 0 = 0 := by
  unfold ordL at h
  obtain ⟨s, _, rfl⟩ := List.mem_map.1 h
  exact ⟨rfl, rfl⟩
theorem ordL_ok (L : List Int) (ρ : Int) (j : Nat) {p : Int} (h0 : 0 ≤ p) (hp : p ≤ 1000000) : OkL p (ordL L ρ j) := ⟨hp, fun x hx => by
  rw [(mem_ordL hx).2]
  exact ⟨Int.le_refl _, h0⟩⟩
theorem ord_none {L : List Int} {ρ : Int} {j : Nat} {p : Int} (h : p + 1 < dly ρ) : overL (p + 1) (ordL L ρ j) = [] ∧ keepL (p + 1) (ordL L ρ j) = ordL L ρ j := by
  have hd : ∀ x ∈ ordL L ρ j, dueL (p + 1) x = false := fun x hx => by
    unfold dueL
    rw [(mem_ordL hx).1, (mem_ordL hx).2]
    exact decide_eq_false (by omega)
  constructor
  · unfold overL
    rw [List.filter_eq_nil_iff]
    intro x hx
    rw [hd x hx]
    simp
  · unfold keepL
    exact List.filter_eq_self.2 fun x hx => by rw [hd x hx]; rfl
theorem ord_all {L : List Int} {ρ : Int} {j : Nat} {p : Int} (h : p + 1 = dly ρ) : overL (p + 1) (ordL L ρ j) = ordL L ρ j ∧ keepL (p + 1) (ordL L ρ j) = [] := by
  have hd : ∀ x ∈ ordL L ρ j, dueL (p + 1) x = true := fun x hx => by
    unfold dueL
    rw [(mem_ordL hx).1, (mem_ordL hx).2]
    exact decide_eq_true (by omega)
  constructor
  · unfold overL
    exact List.filter_eq_self.2 hd
  · unfold keepL
    rw [List.filter_eq_nil_iff]
    intro x hx
    rw [hd x hx]
    simp
/-- Between two rounds of the range over those that are over. -/
def OrdI (w : World) (b b11 g : Nat) (v : Value) (ρ μ d : Int) (pre : List (List Int)) (o : Nat → Prop) (W : World) : Prop :=
  Blk W b11 3 #[.int .i64 (pre.length : Int)] ∧ Box4 W b v ρ μ ∧ Below w.heap.size w W ∧ TimerAt W g d [] ∧ ∀ x, o x ↔ x = b11
theorem OrdI.stay {w : World} {b b11 g : Nat} {v : Value} {ρ μ d : Int} {pre : List (List Int)} {o : Nat → Prop} {W W' : World} {B : Nat} (h : OrdI w b b11 g v ρ μ d pre o W) (hs : StayN (fun _ => False) B o W W') (hb : b + 1 + 1 + 1 < B) (hg : g < B) (hw : w.heap.size ≤ B) : OrdI w b b11 g v ρ μ d pre o W' := by
  obtain ⟨h1, h2, h3, h4, h5⟩ := h
  have hk : ∀ k, k < B → k < W.heap.size → W'.heap[k]? = W.heap[k]? := fun k hk hl => hs.block k (.inl ⟨hk, fun h => h⟩) hl
  exact ⟨(hs.block b11 (.inr ((h5 b11).2 rfl)) h1.lt).trans h1, ⟨(hk _ (by omega) h2.k0.lt).trans h2.k0, (hk _ (by omega) h2.k1.lt).trans h2.k1, (hk _ (by omega) h2.k2.lt).trans h2.k2, (hk _ hb h2.res.lt).trans h2.res⟩,
    ⟨hs.os.trans h3.os, hs.tape.trans h3.tape, hs.output.trans h3.output, Nat.le_trans h3.size hs.size, fun i hi => (hk i (Nat.lt_of_lt_of_le hi hw) (Nat.lt_of_lt_of_le hi h3.size)).trans (h3.block i hi)⟩, h4.same (hk g hg h4.lt), h5⟩
theorem OrdI.there {w : World} {b b11 g : Nat} {v : Value} {ρ μ d : Int} {pre : List (List Int)} {o : Nat → Prop} {W : World} (h : OrdI w b b11 g v ρ μ d pre o W) {x : Nat} (hx : o x) : ∃ y, W.heap[x]? = some y ∧ y.isCells = true := by
  obtain ⟨h1, _, _, _, h5⟩ := h
  obtain rfl := (h5 x).1 hx
  exact ⟨_, h1, rfl⟩
theorem OrdI.next {w : World} {b b11 g : Nat} {v : Value} {ρ μ d : Int} {pre : List (List Int)} {o : Nat → Prop} {W : World} {x : List Int} {q : Nat} (h : OrdI w b b11 g v ρ μ d pre o W) (hq : pre.length = q) (hb : b + 1 + 1 + 1 < b11) (hg : g < b11) (hw : w.heap.size ≤ b11) : OrdI w b b11 g v ρ μ d (pre ++ [x]) o (W.setCell ⟨b11, 0, none⟩ (.int .i64 ((q : Int) + 1))) := by
  obtain ⟨h1, h2, h3, h4, h5⟩ := h
  have hset : ∀ k, k ≠ b11 → (W.setCell ⟨b11, 0, none⟩ (.int .i64 ((q : Int) + 1))).heap[k]? = W.heap[k]? := fun k hk => Below.heap_setCell _ _ _ _ hk
  refine ⟨(h1.store 0 _).same ?_, ⟨h2.k0.far (by show b ≠ b11; omega) _, h2.k1.far (by show b + 1 ≠ b11; omega) _, h2.k2.far (by show b + 1 + 1 ≠ b11; omega) _, h2.res.far (by show b + 1 + 1 + 1 ≠ b11; omega) _⟩, h3.setCell hw _, h4.same (hset g (by omega)), h5⟩
  rw [List.length_append, hq]
  simp
set_option maxRecDepth 100000 in
set_option maxHeartbeats 4000000 in
theorem order_early (A : Option Addr) (n c : Nat) (ρ μ : Int) (h : 40 < (n : Int) ∨ ρ < 0 ∨ 10 < ρ) (w : World) : CallsIn Fence.wide 0 Try.prog 6 #[.slice A n c, .int .i64 ρ, .int .i64 μ] w fun e w' => e = .returned (.bool true) ∧ Below w.heap.size w w' := by
  obtain ⟨hx, hb0, _⟩ := box4_new w A n c ρ μ
  have HX := Lib.hid hx
  have HB0 := Lib.hid hb0
  clear hx hb0
  by_cases h1 : 40 < (n : Int)
  · clear h
    have d1 : decide (40 < (n : Int)) = true := decide_eq_true h1
    refine callsIn_of_wp_marks Try.func6 rfl trivial ?_ rfl
    simp only [Try.ntmps6, List.size_toArray, List.length_cons, List.length_nil, Nat.reduceAdd, Nat.reduceSub, Array.replicate_succ, Array.replicate_zero, List.push_toArray, List.append_toArray, List.nil_append, List.cons_append]
    gi_wp2_with (refine ⟨trivial, rfl, ?_⟩; gi_at_call 7; refine (callsIn_wide.2 (runs_any _)).mono ?_; rintro e W1 ⟨rfl, hb1⟩; have k6 := (HX.out.below hb1).res; have HX1 := Lib.hid (HX.out.below hb1); have c3 := (HX1.out).c0; have c4 := (HX1.out).c1; have c6 := k6.cell 0; have f6 := k6.frozen 0; have HB1 := Lib.hid (HB0.out.trans (hb1.mono HB0.out.size)); have K6 := Lib.hid k6; clear hb1 k6)
    exact ⟨_, results_one rfl _ _ ⟨w.heap.size + 1 + 1 + 1, 0, none⟩ (.bool true) rfl Try.underlying4 rfl ((K6.out.store 0 (.bool true)).cell 0), rfl, HB1.out.setCell (by simp; omega) _⟩
  · have d1 : decide (40 < (n : Int)) = false := decide_eq_false h1
    by_cases h2 : ρ < 0
    · clear h
      have d2 : decide (ρ < 0) = true := decide_eq_true h2
      refine callsIn_of_wp_marks Try.func6 rfl trivial ?_ rfl
      simp only [Try.ntmps6, List.size_toArray, List.length_cons, List.length_nil, Nat.reduceAdd, Nat.reduceSub, Array.replicate_succ, Array.replicate_zero, List.push_toArray, List.append_toArray, List.nil_append, List.cons_append]
      gi_wp2_with (refine ⟨trivial, rfl, ?_⟩; gi_at_call 7; refine (callsIn_wide.2 (runs_any _)).mono ?_; rintro e W1 ⟨rfl, hb1⟩; have k6 := (HX.out.below hb1).res; have HX1 := Lib.hid (HX.out.below hb1); have c3 := (HX1.out).c0; have c4 := (HX1.out).c1; have c6 := k6.cell 0; have f6 := k6.frozen 0; have HB1 := Lib.hid (HB0.out.trans (hb1.mono HB0.out.size)); have K6 := Lib.hid k6; clear hb1 k6)
      exact ⟨_, results_one rfl _ _ ⟨w.heap.size + 1 + 1 + 1, 0, none⟩ (.bool true) rfl Try.underlying4 rfl ((K6.out.store 0 (.bool true)).cell 0), rfl, HB1.out.setCell (by simp; omega) _⟩
    · have h3 : 10 < ρ := by omega
      clear h
      have d2 : decide (ρ < 0) = false := decide_eq_false h2
      have d3 : decide (10 < ρ) = true := decide_eq_true h3
      refine callsIn_of_wp_marks Try.func6 rfl trivial ?_ rfl
      simp only [Try.ntmps6, List.size_toArray, List.length_cons, List.length_nil, Nat.reduceAdd, Nat.reduceSub, Array.replicate_succ, Array.replicate_zero, List.push_toArray, List.append_toArray, List.nil_append, List.cons_append]
      gi_wp2_with (refine ⟨trivial, rfl, ?_⟩; gi_at_call 7; refine (callsIn_wide.2 (runs_any _)).mono ?_; rintro e W1 ⟨rfl, hb1⟩; have k6 := (HX.out.below hb1).res; have HX1 := Lib.hid (HX.out.below hb1); have c3 := (HX1.out).c0; have c4 := (HX1.out).c1; have c6 := k6.cell 0; have f6 := k6.frozen 0; have HB1 := Lib.hid (HB0.out.trans (hb1.mono HB0.out.size)); have K6 := Lib.hid k6; clear hb1 k6)
      exact ⟨_, results_one rfl _ _ ⟨w.heap.size + 1 + 1 + 1, 0, none⟩ (.bool true) rfl Try.underlying4 rfl ((K6.out.store 0 (.bool true)).cell 0), rfl, HB1.out.setCell (by simp; omega) _⟩
set_option maxRecDepth 100000 in
set_option maxHeartbeats 8000000 in
theorem order_high (A : Option Addr) (n c : Nat) (ρ μ : Int) (L : List Int) (w : World) (hrd : RdN w (.slice A n c) L) (hL : L.length = n) (hn : n ≤ 40) (hr0 : 0 ≤ ρ) (hr1 : ρ ≤ 10) : CallsIn Fence.wide 0 Try.prog 6 #[.slice A n c, .int .i64 ρ, .int .i64 μ] w fun e w' => e = .returned (.bool true) ∧ Below w.heap.size w w' := by
  obtain ⟨hx, hb0, hz0⟩ := box4_new w A n c ρ μ
  have HX := Lib.hid hx
  have HB0 := Lib.hid hb0
  have HZ0 := Lib.hid hz0
  have d1 : decide (40 < (n : Int)) = false := decide_eq_false (by omega)
  have d2 : decide (ρ < 0) = false := decide_eq_false (by omega)
  have d3 : decide (10 < ρ) = false := decide_eq_false (by omega)
  have HRDN := Lib.hid hrd
  have HLN := Lib.hid hL
  have hzt := timer_zero
  clear hx hb0 hz0 hrd hL
  refine callsIn_of_wp_marks Try.func6 rfl trivial ?_ rfl
  simp only [Try.ntmps6, List.size_toArray, List.length_cons, List.length_nil, Nat.reduceAdd, Nat.reduceSub, Array.replicate_succ, Array.replicate_zero, List.push_toArray, List.append_toArray, List.nil_append, List.cons_append]
  gi_wp2_with (first
    | (refine ⟨trivial, rfl, ?_⟩; gi_at_call 7; refine (callsIn_wide.2 (runs_any _)).mono ?_; rintro e W1 ⟨rfl, hb1⟩; have HX1 := Lib.hid (HX.out.below hb1); have HX2 := Lib.hid (HX1.out.below ((Below.refl _ W1).alloc (Nat.le_refl _) (.cells (intN 122 fun _ => 0) 28))); have c3 := HX1.out.c0; have c4 := HX1.out.c1; have c3b := HX2.out.c0; have HB1 := Lib.hid hb1; clear hb1))
  obtain ⟨g, hg⟩ : ∃ g, W1.heap.size = g := ⟨_, rfl⟩
  obtain ⟨W2, hW2⟩ : ∃ W2, (W1.alloc (.cells (intN 122 fun _ => 0) 28)) = W2 := ⟨_, rfl⟩
  obtain ⟨b, hbb⟩ : ∃ b, w.heap.size = b := ⟨_, rfl⟩
  have ht2 := timer_new W1
  have hbw : Below (b + 4) W1 W2 := by rw [← hW2]; exact (Below.refl _ W1).alloc (by rw [← hbb, ← HZ0.out]; exact HB1.out.size) _
  have hg4 : b + 4 ≤ g := by rw [← hbb, ← HZ0.out, ← hg]; exact HB1.out.size
  have hb2 : Below w.heap.size w W2 := HB0.out.trans ((HB1.out.trans (by rw [HZ0.out, hbb]; exact hbw)).mono (by rw [HZ0.out]; omega))
  have hx2 := HX2.out
  rw [hW2, hg] at ht2
  rw [hW2, hbb] at hx2
  try simp only [hW2, hg, hbb]
  have HT2 := Lib.hid ht2
  have HB2 := Lib.hid hb2
  have HXB := Lib.hid hx2
  have HG4 := Lib.hid hg4
  have HBB := Lib.hid hbb
  clear ht2 hb2 hx2 hbw hg4 hW2 hg hbb HX1 HX2 HX c3 c4 c3b HB1
  gi_loopw [29] (fun s wr => ∃ j : Nat, j ≤ n ∧ s = .int .i64 (j : Int) ∧ TimerAt wr g 0 (ordL L ρ j) ∧ Below w.heap.size w wr ∧ Box4 wr b (.slice A n c) ρ μ) (fun s _ => n - (intOf s).toNat)
  case atStart => exact ⟨0, Nat.zero_le _, rfl, HT2.out, HB2.out, HXB.out⟩
  case round =>
    obtain ⟨j, hj, rfl, ht, hb, hx⟩ := hrel
    have HT := Lib.hid ht
    have HB := Lib.hid hb
    have HX := Lib.hid hx
    have c4 := hx.c1
    clear ht hb hx
    by_cases hlt : j < n
    · have hji : (j : Int) < (n : Int) := by omega
      have hj0 : (0 : Int) ≤ (j : Int) := by omega
      obtain ⟨x, hx⟩ : ∃ x, L[j]? = some x := ⟨_, List.getElem?_eq_getElem (by rw [HLN.out]; exact hlt)⟩
      obtain ⟨ad, c', he, hcell⟩ := HRDN.out.here hx
      rw [HLN.out] at he
      obtain ⟨rfl, -, rfl⟩ := Value.slice.inj he
      have cx := hcell wr HB.out
      have hs := set_any HT.out ρ x (by rw [ordL_len L ρ j (by rw [HLN.out]; exact hj)]; omega)
      rw [← ordL_next hx] at hs
      have HS := Lib.hid hs
      clear hx hcell hs
      gi_wp2_with (first
        | (refine ⟨trivial, rfl, ?_⟩; gi_at_call 9; refine (callsIn_wide.2 HS.out).mono ?_; rintro e W3 ⟨rfl, ht3, hg3⟩; have HT3 := Lib.hid ht3; have HG3 := Lib.hid hg3; clear ht3 hg3)
        | (refine ⟨trivial, ?_⟩))
      refine ⟨⟨j + 1, hlt, by rfl, HT3.out, ?_, ?_⟩, ?_⟩
      · exact grown_base HB.out HG3.out (by have := HG4.out; have := HBB.out; omega)
      · exact HX.out.grown HG3.out (by have := HG4.out; omega)
      · simp only [intOf]
        omega
    · obtain rfl : j = n := by omega
      have hji : ¬ (j : Int) < (j : Int) := by omega
      gi_wp2
      gi_loopw [10] (fun s wr => ∃ p : Nat, (p : Int) + 1 ≤ dly ρ ∧ s = .int .i64 ((p : Int) + 1) ∧ TimerAt wr g (p : Int) (ordL L ρ j) ∧ Below w.heap.size w wr ∧ Box4 wr b (.slice A j c) ρ μ) (fun s _ => 2004 - (intOf s).toNat)
      case atStart => exact ⟨0, by have := (dly_low ρ).1; omega, by rfl, HT.out, HB.out, HX.out⟩
      case round =>
        clear HT HB HX c4
        obtain ⟨p, hp, rfl, ht, hb, hx⟩ := hrel
        have HT := Lib.hid ht
        have HB := Lib.hid hb
        have HX := Lib.hid hx
        have c4 := hx.c1
        have hp2 : (p : Int) + 1 ≤ 2003 := by have := (dly_low ρ).2; omega
        clear ht hb hx
        have HDL := Lib.hid fun W => delay_any ρ W
        by_cases hlt : (p : Int) + 1 < dly ρ
        · have hov := over_any HT.out (show OkL ((p : Int) + 1) (ordL L ρ j) from ordL_ok L ρ j (by omega) (by omega)) (by omega)
          obtain ⟨ho1, ho2⟩ := ord_none (L := L) (j := j) hlt
          rw [ho1, ho2] at hov
          have HOV := Lib.hid hov
          obtain ⟨d, hd⟩ : ∃ d, dly ρ = d := ⟨_, rfl⟩
          rw [hd] at HDL hlt hp
          have HD := Lib.hid hd
          clear hov ho1 ho2 hd
          gi_wp2_with (first
            | (refine ⟨trivial, rfl, ?_⟩; gi_at_call 10; refine (callsIn_wide.2 (HDL.out _)).mono ?_; rintro e W8 ⟨rfl, h8⟩; obtain rfl := h8.symm)
            | (refine ⟨trivial, rfl, ?_⟩; gi_at_call 13; refine (callsIn_wide.2 HOV.out).mono ?_; rintro e W3 ⟨v, rfl, hrd3, ht3, hg3⟩; obtain ⟨A6, c6, rfl⟩ : ∃ A6 c6, v = .slice A6 0 c6 := (by obtain ⟨_, A6, c6, h, _⟩ := hrd3; exact ⟨A6, c6, h⟩); have HT3 := Lib.hid ht3; have HG3 := Lib.hid hg3; clear ht3 hg3 hrd3)
            | (refine ⟨trivial, ?_⟩))
          have epp : ((p + 1 : Nat) : Int) = (p : Int) + 1 := by omega
          refine ⟨⟨p + 1, by rw [epp, HD.out]; omega, by rw [epp], by rw [epp]; exact HT3.out, ?_, ?_⟩, ?_⟩
          · exact grown_base HB.out HG3.out (by have := HG4.out; have := HBB.out; omega)
          · exact HX.out.grown HG3.out (by have := HG4.out; omega)
          · simp only [intOf]
            omega
        · have hpd : (p : Int) + 1 = dly ρ := by omega
          obtain ⟨wz, hwz⟩ : ∃ z, z = wr := ⟨_, rfl⟩
          subst hwz
          obtain ⟨b11, hb11⟩ : ∃ b11, wz.heap.size = b11 := ⟨_, rfl⟩
          obtain ⟨W3, hW3⟩ : ∃ W3, wz.alloc (.cells #[.int .i64 0] 3) = W3 := ⟨_, rfl⟩
          have hb3a : Below wz.heap.size wz W3 := by rw [← hW3]; exact (Below.refl _ _).alloc (Nat.le_refl _) _
          have k11a : Blk W3 b11 3 #[.int .i64 0] := by rw [← hW3, ← hb11]; exact Blk.new _ _ _
          have c11 : W3.cell? ⟨b11, 0, none⟩ = some (.int .i64 0) := by rw [k11a.cell]; rfl
          have f11 : W3.frozen? ⟨b11, 0, none⟩ = false := k11a.frozen 0
          obtain ⟨W3s, hW3s⟩ : ∃ W3s, W3.setCell ⟨b11, 0, none⟩ (.int .i64 0) = W3s := ⟨_, rfl⟩
          have hb3 : Below wz.heap.size wz W3s := by rw [← hW3s]; exact hb3a.setCell (by rw [hb11]; exact Nat.le_refl _) _
          have k11 : Blk W3s b11 3 #[.int .i64 0] := by rw [← hW3s]; exact (k11a.store 0 _).same (by simp)
          have hz3s : W3s.heap.size = b11 + 1 := by rw [← hW3s, ← hb11, ← hW3]; simp [World.setCell]
          have htk := tick_any (HT.out.below hb3) (ordL_ok L ρ j (show (0 : Int) ≤ (p : Int) + 1 by omega) (by omega)) (by omega)
          obtain ⟨ho1, ho2⟩ := ord_all (L := L) (j := j) hpd
          rw [ho1, ho2] at htk
          have HTK := Lib.hid htk
          have HX3 := Lib.hid (HX.out.below hb3)
          have HB3 := Lib.hid (HB.out.trans (hb3.mono HB.out.size))
          have HK11 := Lib.hid k11
          have HGB : Hid (g < b11 ∧ W3s.heap.size = b11 + 1) := Lib.hid ⟨by rw [← hb11]; exact HT.out.lt, hz3s⟩
          have hnlt : ¬ (p : Int) + 1 < (p : Int) + 1 := by omega
          rw [← hpd] at HDL
          clear htk ho1 ho2 hb3 hb3a k11 k11a hz3s hlt hp HT HB HX
          gi_wp2_with (first
            | (refine ⟨trivial, rfl, ?_⟩; gi_at_call 10; refine (callsIn_wide.2 (HDL.out _)).mono ?_; rintro e W8 ⟨rfl, h8⟩; obtain rfl := h8.symm)
            | (refine ⟨trivial, rfl, ?_⟩; gi_at_call 17; refine (callsIn_wide.2 HTK.out).mono ?_; rintro e W4 ⟨c2, v, rfl, hc2, hcell, hrow, hvb, htm, hgr⟩)
            | (refine ⟨trivial, ?_⟩))
          obtain ⟨hg11, hz3⟩ := HGB.out
          have hg4 := HG4.out
          have hbb := HBB.out
          have hz4 := hgr.size
          have hseq := tick2_seq c2 v (ordL L ρ j) W4 hcell hrow (fun A m q hv => (hvb A m q hv).2)
          have k11 : Blk W4 b11 3 #[.int .i64 0] := HK11.out.grown hgr (fun e => by have := Option.some.inj e; omega)
          have h0 : OrdI w b b11 g (.slice A j c) ρ μ ((p : Int) + 1) [] (fun x => x = b11) W4 := ⟨k11, HX3.out.grown hgr (by omega), grown_base HB3.out hgr (by omega), htm, fun x => Iff.rfl⟩
          have hfar : FarT c2 v (fun x => x = b11) := ⟨by omega, fun A m q hv => by have := (hvb A m q hv).1; omega⟩
          have HWZ : Hid (b + 1 + 1 + 1 < b11 ∧ g < b11 ∧ w.heap.size ≤ b11 ∧ b11 < W4.heap.size) := Lib.hid ⟨by omega, hg11, by omega, by omega⟩
          have HOL : Hid ((ordL L ρ j).length = j) := Lib.hid (ordL_len L ρ j (by rw [HLN.out]; exact Nat.le_refl _))
          have HLG : Hid (∀ q x, (ordL L ρ j)[q]? = some x → ∃ s, L[q]? = some s ∧ x = [ρ, s, 0]) := Lib.hid fun q x hx => by
            unfold ordL at hx
            rw [List.getElem?_map, Option.map_eq_some_iff] at hx
            obtain ⟨s, hs, rfl⟩ := hx
            rw [List.take_of_length_le (Nat.le_of_eq HLN.out)] at hs
            exact ⟨s, hs, rfl⟩
          clear hcell hrow hvb htm hgr k11 c11 f11 hg11 hz3 hg4 hbb hz4
          refine wpIn_rangeFunc_N (gf := 21) (lb := #[.pointer (some ⟨c2, 0, none⟩)]) rfl (enters_of Try.func21 (by kernel_rfl) rfl) (M := fun _ => False) (fun b h => h.elim) hseq
            (fun x o W vs h => by rw [show vs = encT x from h]; rfl)
            (OrdI w b b11 g (.slice A j c) ρ μ ((p : Int) + 1)) (fun cd pre o W => cd = Code.exit 4 ∧ OrdI w b b11 g (.slice A j c) ρ μ ((p : Int) + 1) pre o W ∧ (pre.length : Int) = μ)
            ⟨fun s o X X' h hs => h.stay hs (by have := HWZ.out; omega) (by have := HWZ.out; omega) (by have := HWZ.out; omega), fun s o X h x hx => h.there hx⟩
            (fun cd => ⟨fun s o X X' h hs => ⟨h.1, h.2.1.stay hs (by have := HWZ.out; omega) (by have := HWZ.out; omega) (by have := HWZ.out; omega), h.2.2⟩, fun s o X h x hx => h.2.1.there hx⟩)
            (fun x => x = b11) h0 hfar
            (fun x o a' W' => a' = { tmps := #[.slice A j c, .int .i64 ρ, .int .i64 μ, .pointer (some ⟨b, 0, none⟩), .pointer (some ⟨b + 1, 0, none⟩), .pointer (some ⟨b + 1 + 1, 0, none⟩), .pointer (some ⟨b + 1 + 1 + 1, 0, none⟩), .pointer (some ⟨g, 0, none⟩), undef, u9, .int .i64 (dly ρ), .pointer (some ⟨b11, 0, none⟩), .int .i64 (x.getD 0 0), .int .i64 (x.getD 1 0), .bool true, .bool false, .slice A j c, .int .i64 (j : Int), .bool false, .bool false, .int .i64 ρ, .bool false, .bool false, .bool false, .int .i64 ρ, .bool false, .bool false, .slice A j c, .int .i64 (j : Int), .int .i64 (j : Int), .bool false, u31, u32, u33, u34, u35, u36, u37, .int .i64 (dly ρ), .int .i64 ρ, .int .i64 (dly ρ), .bool false, u42, u43, u44, u45, u46, .func (.func 21) #[] #[.pointer (some ⟨c2, 0, none⟩)], .int .i64 (x.getD 0 0), .int .i64 (x.getD 1 0), undef, undef, undef, undef, undef, undef, undef, undef, undef, undef, undef, undef, undef, undef, undef, undef, undef, undef, undef, undef, undef, undef, undef, undef, undef, undef, undef, undef, undef, undef, undef, undef, undef, undef, undef], defers := [] })
            (fun x o a' W l b b' _ h1 h2 h3 => h3) ?assign ?body ?done ?stop
          case assign =>
            intro l' pre x vs o W' K hlt' hpre hi henc hK
            obtain rfl : vs = encT x := henc
            have HKK := Lib.hid hK
            clear hi hK h0 hfar hseq
            unfold encT
            simp only [List.zip_toArray, List.zip_cons_cons, List.zip_nil_right, List.foldl_toArray, List.foldl_cons, List.foldl_nil, List.setIfInBounds_toArray, List.set_cons_zero, List.set_cons_succ]
            gi_wp2
            exact HKK.out _ _ (keepsFrom_of_below (Below.refl _ _)) (Below.refl _ _) rfl
          case body =>
            rintro l' pre x o a' W' hl hlt' hpre hI rfl
            obtain ⟨q, hq⟩ : ∃ q, pre.length = q := ⟨_, rfl⟩
            have hxq : (ordL L ρ j)[q]? = some x := by
              obtain ⟨r, hr⟩ := hpre
              rw [← hr, ← hq]
              simp
            obtain ⟨s, hs, rfl⟩ := HLG.out q x hxq
            have hqj : q < j := by
              have := (List.getElem?_eq_some_iff.1 hxq).1
              rw [HOL.out] at this
              exact this
            obtain ⟨ad, c', he, hcell⟩ := HRDN.out.here hs
            rw [HLN.out] at he
            obtain ⟨rfl, -, rfl⟩ := Value.slice.inj he
            have HI := Lib.hid hI
            obtain ⟨h1, h2, h3, h4, h5⟩ := hI
            rw [hq] at h1
            have cx := hcell W' h3
            have c11 : W'.cell? ⟨b11, 0, none⟩ = some (.int .i64 (q : Int)) := by rw [h1.cell]; rfl
            have f11 := h1.frozen 0
            have c3 := h2.c0
            have c4 := h2.c1
            have hqi : (q : Int) < (j : Int) := by omega
            have hq0 : (0 : Int) ≤ (q : Int) := by omega
            have hq1 : (q : Int) ≤ 1000 := by omega
            have dge : decide ((j : Int) ≤ (q : Int)) = false := decide_eq_false (by omega)
            have dge2 : decide (j ≤ q) = false := decide_eq_false (by omega)
            have HNX := Lib.hid (HI.out.next (x := [ρ, s, 0]) hq HWZ.out.1 HWZ.out.2.1 HWZ.out.2.2.1)
            have c5' := HNX.out.2.1.c2
            have c11' : (W'.setCell ⟨b11, 0, none⟩ (.int .i64 ((q : Int) + 1))).cell? ⟨b11, 0, none⟩ = some (.int .i64 ((q : Int) + 1)) := ((h1.store 0 (.int .i64 ((q : Int) + 1))).cell 0).trans (by simp)
            have HK1 := Lib.hid h1
            have HPL : Hid ((pre ++ [[ρ, s, 0]]).length = q + 1) := Lib.hid (by rw [List.length_append, hq]; rfl)
            have HO5 := Lib.hid h5
            clear h1 h2 h3 h4 h5 h0 hfar hseq hxq hs hcell hpre hq
            simp only [List.getD_cons_zero, List.getD_cons_succ]
            have HKF : Hid (KeepsFrom W4.heap.size W' (W'.setCell ⟨b11, 0, none⟩ (.int .i64 ((q : Int) + 1)))) := Lib.hid (keepsFrom_row HK1.out (by simp [World.setCell]) (fun b hb => Below.heap_setCell _ _ _ b hb))
            by_cases hm : (q : Int) + 1 = μ
            · have hmq : ((q : Int) + 1 == μ) = true := by rw [beq_iff_eq]; exact hm
              have HM := Lib.hid hm
              clear hm
              gi_wp2
              exact ⟨HKF.out, o, rfl, HNX.out, by rw [HPL.out]; have := HM.out; omega⟩
            · have hmq : ((q : Int) + 1 == μ) = false := by rw [beq_eq_false_iff_ne]; exact hm
              clear hm
              gi_wp2
              exact ⟨HKF.out, Keep.setCell _ _ _ ((HO5.out b11).2 rfl), o, HNX.out, fun x hx => .inl hx⟩
          case done =>
            rintro D o W' hD hI hK
            rw [OrdI, HOL.out] at hI
            obtain ⟨h1, h2, h3, h4, h5⟩ := hI
            have c11 : W'.cell? ⟨b11, 0, none⟩ = some (.int .i64 (j : Int)) := by rw [h1.cell]; rfl
            have c3 := h2.c0
            have c5 := h2.c2
            have c6 := h2.res.cell 0
            have f6 := h2.res.frozen 0
            have HLE := Lib.hid (len_any h4)
            have H6 := Lib.hid h2.res
            have HB := Lib.hid h3
            have HK := Lib.hid hK
            have HDD := Lib.hid hD
            clear h1 h2 h3 h4 h5 hK hD h0 hfar hseq
            gi_wp2_with (first
              | (refine ⟨trivial, rfl, ?_⟩; gi_at_call 15; refine (callsIn_wide.2 HLE.out).mono ?_; rintro e W20 ⟨rfl, h20⟩; obtain rfl := h20.symm)
              | (refine ⟨trivial, ?_⟩))
            have hD4 : (W'.setCell ⟨b + 1 + 1 + 1, 0, none⟩ (.bool true)).heap[D]? = some (.deferred (some [])) := (Below.heap_setCell W' ⟨b + 1 + 1 + 1, 0, none⟩ _ D (by have := HWZ.out; have := HDD.out; show D ≠ b + 1 + 1 + 1; omega)).trans HK.out
            refine ⟨by simp, .inl ⟨_, _, rfl, run_takeDeferred hD4, ?_⟩⟩
            refine ⟨_, results_one rfl _ _ ⟨b + 1 + 1 + 1, 0, none⟩ (.bool true) rfl Try.underlying4 rfl (((H6.out.store 0 (.bool true)).putObjT _ hD4 rfl).cell 0), rfl, ?_⟩
            exact below_putObj (HB.out.setCell (by have := HBB.out; simp; omega) _) _ (by have := HWZ.out; have := HDD.out; omega)
          case stop =>
            rintro D cd pre o W' hD hpre hne ⟨rfl, hI, hmost⟩ hK
            obtain ⟨q, hq⟩ : ∃ q, pre.length = q := ⟨_, rfl⟩
            rw [OrdI, hq] at hI
            rw [hq] at hmost
            obtain ⟨h1, h2, h3, h4, h5⟩ := hI
            subst hmost
            by_cases hqj : q = j
            · subst hqj
              have c11 : W'.cell? ⟨b11, 0, none⟩ = some (.int .i64 (q : Int)) := by rw [h1.cell]; rfl
              have c3 := h2.c0
              have c5 := h2.c2
              have c6 := h2.res.cell 0
              have f6 := h2.res.frozen 0
              have HLE := Lib.hid (len_any h4)
              have H6 := Lib.hid h2.res
              have HB := Lib.hid h3
              have HK := Lib.hid hK
              have HDD := Lib.hid hD
              clear h1 h2 h3 h4 h5 hK hD h0 hfar hseq
              gi_wp2_with (first
                | (refine ⟨trivial, rfl, ?_⟩; gi_at_call 15; refine (callsIn_wide.2 HLE.out).mono ?_; rintro e W20 ⟨rfl, h20⟩; obtain rfl := h20.symm)
                | (refine ⟨trivial, ?_⟩))
              have hD4 : (W'.setCell ⟨b + 1 + 1 + 1, 0, none⟩ (.bool true)).heap[D]? = some (.deferred (some [])) := (Below.heap_setCell W' ⟨b + 1 + 1 + 1, 0, none⟩ _ D (by have := HWZ.out; have := HDD.out; show D ≠ b + 1 + 1 + 1; omega)).trans HK.out
              refine ⟨by simp, .inl ⟨_, _, rfl, run_takeDeferred hD4, ?_⟩⟩
              refine ⟨_, results_one rfl _ _ ⟨b + 1 + 1 + 1, 0, none⟩ (.bool true) rfl Try.underlying4 rfl (((H6.out.store 0 (.bool true)).putObjT _ hD4 rfl).cell 0), rfl, ?_⟩
              exact below_putObj (HB.out.setCell (by have := HBB.out; simp; omega) _) _ (by have := HWZ.out; have := HDD.out; omega)
            · have d5 : ((q : Int) == (j : Int)) = false := by rw [beq_eq_false_iff_ne]; omega
              have c11 : W'.cell? ⟨b11, 0, none⟩ = some (.int .i64 (q : Int)) := by rw [h1.cell]; rfl
              have c3 := h2.c0
              have c5 := h2.c2
              have c6 := h2.res.cell 0
              have f6 := h2.res.frozen 0
              have HLE := Lib.hid (len_any h4)
              have H6 := Lib.hid h2.res
              have HB := Lib.hid h3
              have HK := Lib.hid hK
              have HDD := Lib.hid hD
              clear h1 h2 h3 h4 h5 hK hD h0 hfar hseq
              gi_wp2_with (first
                | (refine ⟨trivial, rfl, ?_⟩; gi_at_call 15; refine (callsIn_wide.2 HLE.out).mono ?_; rintro e W20 ⟨rfl, h20⟩; obtain rfl := h20.symm)
                | (refine ⟨trivial, ?_⟩))
              have hD4 : (W'.setCell ⟨b + 1 + 1 + 1, 0, none⟩ (.bool true)).heap[D]? = some (.deferred (some [])) := (Below.heap_setCell W' ⟨b + 1 + 1 + 1, 0, none⟩ _ D (by have := HWZ.out; have := HDD.out; show D ≠ b + 1 + 1 + 1; omega)).trans HK.out
              refine ⟨by simp, .inl ⟨_, _, rfl, run_takeDeferred hD4, ?_⟩⟩
              refine ⟨_, results_one rfl _ _ ⟨b + 1 + 1 + 1, 0, none⟩ (.bool true) rfl Try.underlying4 rfl (((H6.out.store 0 (.bool true)).putObjT _ hD4 rfl).cell 0), rfl, ?_⟩
              exact below_putObj (HB.out.setCell (by have := HBB.out; simp; omega) _) _ (by have := HWZ.out; have := HDD.out; omega)
theorem order_law (v : Value) (L : List Int) (ρ μ : Int) (w : World) (hr : RdN w v L) : Calls Try.prog 6 #[v, .int .i64 ρ, .int .i64 μ] w fun e w' => e = .returned (.bool true) ∧ Below w.heap.size w w' := by
  obtain ⟨A, c, rfl, _, _⟩ := id hr
  by_cases h : 40 < (L.length : Int) ∨ ρ < 0 ∨ 10 < ρ
  · exact callsIn_wide.1 (order_early A L.length c ρ μ h w)
  · exact callsIn_wide.1 (order_high A L.length c ρ μ L w hr rfl (by omega) (by omega) (by omega))
end Go.Proofs.Ytgcpiaogodgphaa
