/-
  The count of votes: in which round so many voted that one of them isn't faulty. No condition.
-/
import Derived.Test.YtbgojlcciealiaaCntPres
namespace Go.Proofs.Ytbgojlcciealiaa
open Go Go.RowKit Go.Maps
attribute [local go_sem] Oper.semAt_some

theorem oper_load {P : Program} {o : Oper} {a : Act} {w : World} {K : Act → World → Prop} {Q : Exit → Act → World → Prop} (ty : TypeId) (x : Operand) (ho : o.op = .load ty x) (p v : Value) (hx : a.eval x = p) (hl : (Instr.loadAt ty p).run P w = .ok v w) (h : K (a.put o.dst v) w) : o.wp P a w K Q := by
  subst hx
  unfold Oper.wp
  simp [execOp, ho, hl, Result.andThen, Oper.upon]
  exact h
/-- In a round so many voted that one of them isn't faulty. -/
def many (NN : Nat) (V : Vt) (m : Nat) : Bool := decide (faults NN < ((presentL NN V (m : Int)).length : Int))
/-- The greatest such round from s on, below m. -/
def aheadF (NN : Nat) (V : Vt) (s m : Nat) : Option Nat := ((List.range' s (m - s)).filter (many NN V)).getLast?
theorem aheadF_step (NN : Nat) (V : Vt) {s m : Nat} (h : s ≤ m) : aheadF NN V s (m + 1) = if many NN V m = true then some m else aheadF NN V s m := by
  unfold aheadF
  rw [show m + 1 - s = (m - s) + 1 from by omega, List.range'_concat, List.filter_append, List.getLast?_append]
  rw [show s + 1 * (m - s) = m from by omega]
  split
  · rename_i hm
    simp [hm]
  · rename_i hm
    simp [hm]
theorem aheadF_none (NN : Nat) (V : Vt) (s : Nat) : aheadF NN V s s = none := by
  unfold aheadF
  simp
theorem faults_le (n : Int) : faults n ≤ 2 := by
  unfold faults
  repeat' split
  all_goals omega
def startOf (r : Int) : Nat := (min (max r (-1)) 12 + 1).toNat
theorem startOf_eq (r : Int) : ((startOf r : Nat) : Int) = min (max r (-1)) 12 + 1 := by unfold startOf; omega
theorem aheadF_is (NN : Nat) (V : Vt) (r : Int) : aheadF NN V (startOf r) 12 = aheadO NN V r ∨ 12 < startOf r := by
  by_cases h : 12 < startOf r
  · exact .inr h
  refine .inl ?_
  unfold aheadF aheadO
  congr 1
  have e : List.range 12 = List.range' 0 (startOf r) ++ List.range' (startOf r) (12 - startOf r) := by
    have := @List.range'_append_1 0 (startOf r) (12 - startOf r)
    rw [Nat.zero_add] at this
    rw [this, List.range_eq_range']
    congr 1
    omega
  rw [e, List.filter_append]
  have hs := startOf_eq r
  have e1 : (List.range' 0 (startOf r)).filter (fun (m : Nat) => decide (r < (m : Int)) && decide (faults NN < ((presentL NN V (m : Int)).length : Int))) = [] := List.filter_eq_nil_iff.2 (fun m hm => by
    rw [List.mem_range'_1] at hm
    have : ¬ (r < (m : Int)) := by omega
    simp [this])
  rw [e1, List.nil_append]
  refine List.filter_congr fun m hm => ?_
  rw [List.mem_range'_1] at hm
  have : r < (m : Int) := by omega
  simp [this, many]
theorem aheadO_high (NN : Nat) (V : Vt) (r : Int) (h : 12 < startOf r) : aheadO NN V r = none := by
  have hs := startOf_eq r
  unfold aheadO
  rw [List.filter_eq_nil_iff.2 (fun m hm => by
    rw [List.mem_range] at hm
    have : ¬ (r < (m : Int)) := by omega
    simp [this])]
  rfl
/-- What holds between two rounds. -/
structure AheadR (W : World) (B M n NN : Nat) (V : Vt) (s m b8 : Nat) (ds : List Deferred) (W' : World) : Prop where
  k2 : Blk W' W.heap.size 28 #[.pointer (some ⟨B, 0, none⟩)]
  k6 : Blk W' (W.heap.size + 1) 3 #[.int .i64 (((aheadF NN V s m).getD 0 : Nat) : Int)]
  k7 : Blk W' (W.heap.size + 1 + 1) 4 #[.bool (aheadF NN V s m).isSome]
  k8 : Blk W' b8 3 #[.int .i64 (m : Int)]
  b8 : W.heap.size + 2 < b8
  count : CountAt W' B M n NN V
  marks : Marks W.heap.size ds W'
  below : Below W.heap.size W W'
  sm : s ≤ m
  m12 : m ≤ max s 12
  s13 : s ≤ 13
theorem AheadR.keep {W : World} {B M n NN : Nat} {V : Vt} {s m b8 : Nat} {ds : List Deferred} {A' B' : World} {Bd : Nat} (h : AheadR W B M n NN V s m b8 ds A') (hb : Below Bd A' B') (h8 : b8 < Bd) (hc : B < Bd ∧ M < Bd) (hm : ∀ e ∈ ds, ∀ D, e.target = .collected D → D < Bd) : AheadR W B M n NN V s m b8 ds B' :=
  ⟨h.k2.below hb (by have := h.b8; omega), h.k6.below hb (by have := h.b8; omega), h.k7.below hb (by have := h.b8; omega), h.k8.below hb h8, h.b8, h.count.same (hb.block _ hc.1) (hb.block _ hc.2), h.marks.keep fun D _ _ hd ⟨e, he, hc⟩ => (hb.block D (hm e he D hc)).trans hd, h.below.trans (hb.mono (by have := h.b8; omega)), h.sm, h.m12, h.s13⟩
/-- What holds between two who voted. -/
structure AheadJ (W W1 : World) (B M n NN : Nat) (V : Vt) (s m b8 b9 d1 : Nat) (ds : List Deferred) (pre : List (Nat × List UInt8)) (W' : World) : Prop where
  r : AheadR W B M n NN V s m b8 ds W'
  k9 : Blk W' b9 3 #[.int .i64 (pre.length : Int)]
  le : (pre.length : Int) ≤ faults NN
  e1 : Blk W' d1 28 #[.pointer (some ⟨B, 0, none⟩)]
  e2 : Blk W' (d1 + 1) 3 #[.int .i64 (m : Int)]
  size : W1.heap.size ≤ W'.heap.size
theorem AheadJ.keep {W W1 : World} {B M n NN : Nat} {V : Vt} {s m b8 b9 d1 : Nat} {ds : List Deferred} {pre : List (Nat × List UInt8)} {A' B' : World} {Bd : Nat} (h : AheadJ W W1 B M n NN V s m b8 b9 d1 ds pre A') (hb : Below Bd A' B') (h8 : b8 < Bd) (h9 : b9 < Bd) (hd : d1 + 1 < Bd) (hc : B < Bd ∧ M < Bd) (hm : ∀ e ∈ ds, ∀ D, e.target = .collected D → D < Bd) : AheadJ W W1 B M n NN V s m b8 b9 d1 ds pre B' :=
  ⟨h.r.keep hb h8 hc hm, h.k9.below hb h9, h.le, h.e1.below hb (by omega), h.e2.below hb hd, Nat.le_trans h.size hb.size⟩
/-- So many voted. -/
structure AheadX (W : World) (B M n NN : Nat) (V : Vt) (s m b8 : Nat) (ds : List Deferred) (c : Code) (pre : List (Nat × List UInt8)) (W' : World) : Prop where
  c : c = .exit 1
  gt : faults NN < (pre.length : Int)
  k2 : Blk W' W.heap.size 28 #[.pointer (some ⟨B, 0, none⟩)]
  k6 : Blk W' (W.heap.size + 1) 3 #[.int .i64 (m : Int)]
  k7 : Blk W' (W.heap.size + 1 + 1) 4 #[.bool true]
  k8 : Blk W' b8 3 #[.int .i64 (m : Int)]
  b8 : W.heap.size + 2 < b8
  count : CountAt W' B M n NN V
  marks : Marks W.heap.size ds W'
  below : Below W.heap.size W W'
  sm : s ≤ m
theorem AheadX.keep {W : World} {B M n NN : Nat} {V : Vt} {s m b8 : Nat} {ds : List Deferred} {c : Code} {pre : List (Nat × List UInt8)} {A' B' : World} {Bd : Nat} (h : AheadX W B M n NN V s m b8 ds c pre A') (hb : Below Bd A' B') (h8 : b8 < Bd) (hc : B < Bd ∧ M < Bd) (hm : ∀ e ∈ ds, ∀ D, e.target = .collected D → D < Bd) : AheadX W B M n NN V s m b8 ds c pre B' :=
  ⟨h.c, h.gt, h.k2.below hb (by have := h.b8; omega), h.k6.below hb (by have := h.b8; omega), h.k7.below hb (by have := h.b8; omega), h.k8.below hb h8, h.b8, h.count.same (hb.block _ hc.1) (hb.block _ hc.2), h.marks.keep fun D _ _ hd ⟨e, he, hc⟩ => (hb.block D (hm e he D hc)).trans hd, h.below.trans (hb.mono (by have := h.b8; omega)), h.sm⟩
def mAt (v : Value) (W : World) : Nat := match v with
  | .pointer (some a) => (match W.cell? a with
    | some (.int _ i) => i.toNat
    | _ => 0)
  | _ => 0
theorem mAt_blk {W : World} {b m : Nat} (h : Blk W b 3 #[.int .i64 (m : Int)]) : mAt (.pointer (some ⟨b, 0, none⟩)) W = m := by
  have : W.cell? ⟨b, 0, none⟩ = some (.int .i64 (m : Int)) := by rw [h.cell]; rfl
  simp [mAt, this]
set_option maxRecDepth 100000 in
set_option maxHeartbeats 8000000 in
theorem ahead_any {W : World} {B M n : Nat} {NN : Nat} {V : Vt} (h : CountAt W B M n NN V) (r : Int) (hr : wfi r) (hN : NN ≤ 1000) (hF : 0 ≤ faults NN) :
    Calls Try.prog 28 #[.pointer (some ⟨B, 0, none⟩), .int .i64 r] W fun e w' => e = .returned (.tuple #[.int .i64 (((aheadO NN V r).getD 0 : Nat) : Int), .bool (aheadO NN V r).isSome]) ∧ Below W.heap.size W w' := by
  have HC := Lib.hid h
  have HLT0 : Hid (B < W.heap.size ∧ M < W.heap.size) := Lib.hid ⟨h.ltB, h.ltM⟩
  have HW := Lib.hid hr
  have HF0 := Lib.hid hF
  clear h hr hF
  refine (callsIn_wide (n := 0)).1 ?_
  refine callsIn_of_wp_marks Try.func28 rfl trivial ?_ rfl
  simp only [Try.ntmps28, List.size_toArray, List.length_cons, List.length_nil, Nat.reduceAdd, Nat.reduceSub, Array.replicate_succ, Array.replicate_zero, List.push_toArray, List.append_toArray, List.nil_append, List.cons_append]
  have hse := startOf_eq r
  obtain ⟨s, hs⟩ : ∃ s, startOf r = s := ⟨_, rfl⟩
  rw [hs] at hse
  have HRES : Hid (∀ z, z = aheadF NN V s 12 ∨ 12 < s ∧ z = none → z = aheadO NN V r) := Lib.hid fun z hz => by
    rw [← hs] at hz
    rcases hz with h | ⟨h, h'⟩
    · rcases aheadF_is NN V r with h2 | h2
      · exact h.trans h2
      · rw [h, aheadO_high NN V r h2]
        unfold aheadF
        rw [show 12 - startOf r = 0 from by omega]
        simp
    · rw [h', aheadO_high NN V r h]
  clear hs
  obtain ⟨x, hx⟩ : ∃ x, (if r < -1 then (-1 : Int) else r) = x := ⟨_, rfl⟩
  obtain ⟨z, hz⟩ : ∃ z, (if 12 < x then (12 : Int) else x) = z := ⟨_, rfl⟩
  have hxe : max r (-1) = x := by rw [← hx]; split <;> omega
  have hze : min x 12 = z := by rw [← hz]; split <;> omega
  rw [hxe, hze] at hse
  clear hxe hze
  have hz1 : -1 ≤ z := by omega
  have hz2 : z ≤ 12 := by omega
  have HSE := Lib.hid hse
  clear hse
  gi_wp2
  refine wpIn_wide.2 (wp_scope_straight ((wpIn_wide (n := 0)).1 ?_))
  gi_wp2
  refine wpIn_label ?_
  gi_wp2
  have hk2 : Blk ((((W.alloc (.cells #[.pointer (some ⟨B, 0, none⟩)] 28)).alloc (.cells #[.int .i64 0] 3)).alloc (.cells #[.bool false] 4)).alloc (.cells #[.int .i64 (z + 1)] 3)) W.heap.size 28 #[.pointer (some ⟨B, 0, none⟩)] := (((Blk.newAt W _ rfl rfl).alloc _).alloc _).alloc _
  have hk6 : Blk ((((W.alloc (.cells #[.pointer (some ⟨B, 0, none⟩)] 28)).alloc (.cells #[.int .i64 0] 3)).alloc (.cells #[.bool false] 4)).alloc (.cells #[.int .i64 (z + 1)] 3)) (W.heap.size + 1) 3 #[.int .i64 0] := ((Blk.newAt _ _ (by simp) rfl).alloc _).alloc _
  have hk7 : Blk ((((W.alloc (.cells #[.pointer (some ⟨B, 0, none⟩)] 28)).alloc (.cells #[.int .i64 0] 3)).alloc (.cells #[.bool false] 4)).alloc (.cells #[.int .i64 (z + 1)] 3)) (W.heap.size + 1 + 1) 4 #[.bool false] := (Blk.newAt _ _ (by simp) rfl).alloc _
  have hk8 : Blk ((((W.alloc (.cells #[.pointer (some ⟨B, 0, none⟩)] 28)).alloc (.cells #[.int .i64 0] 3)).alloc (.cells #[.bool false] 4)).alloc (.cells #[.int .i64 (z + 1)] 3)) (W.heap.size + 1 + 1 + 1) 3 #[.int .i64 (z + 1)] := Blk.newAt _ _ (by simp) rfl
  have hb0 : Below W.heap.size W ((((W.alloc (.cells #[.pointer (some ⟨B, 0, none⟩)] 28)).alloc (.cells #[.int .i64 0] 3)).alloc (.cells #[.bool false] 4)).alloc (.cells #[.int .i64 (z + 1)] 3)) := ((((Below.refl _ W).alloc (Nat.le_refl _) _).alloc (by simp) _).alloc (by simp; omega) _).alloc (by simp; omega) _
  generalize ((((W.alloc (.cells #[.pointer (some ⟨B, 0, none⟩)] 28)).alloc (.cells #[.int .i64 0] 3)).alloc (.cells #[.bool false] 4)).alloc (.cells #[.int .i64 (z + 1)] 3)) = W0 at hk2 hk6 hk7 hk8 hb0 ⊢
  have hR0 : AheadR W B M n NN V s s (W.heap.size + 1 + 1 + 1) [] W0 := ⟨hk2, by rw [aheadF_none]; exact hk6, by rw [aheadF_none]; exact hk7, by have := HSE.out; rw [this]; exact hk8, by omega, HC.out.below hb0, trivial, hb0, Nat.le_refl _, by omega, by have := HSE.out; omega⟩
  have hzs : z + 1 = (s : Int) := HSE.out.symm
  clear hk2 hk6 hk7 hk8 hb0 hx hz
  refine wpIn_loop (fun a w => ∃ (m b8 : Nat) (ds : List Deferred) (u9 u10 u11 u12 u13 u14 u15 u16 u17 u18 u19 u20 u21 u22 u23 u24 u25 u26 u27 u28 u29 u30 u31 u32 u33 u34 u35 : Value), a = { tmps := #[.pointer (some ⟨B, 0, none⟩), .int .i64 r, .pointer (some ⟨W.heap.size, 0, none⟩), undef, .int .i64 0, .bool false, .pointer (some ⟨W.heap.size + 1, 0, none⟩), .pointer (some ⟨W.heap.size + 1 + 1, 0, none⟩), .pointer (some ⟨b8, 0, none⟩), u9, u10, u11, u12, u13, u14, u15, u16, u17, u18, u19, u20, u21, u22, u23, u24, u25, u26, u27, u28, u29, u30, u31, u32, u33, u34, u35], defers := ds } ∧ AheadR W B M n NN V s m b8 ds w) (fun a w => 13 - mAt (a.tmps.getD 8 undef) w) ?start ?round
  case start => exact ⟨s, _, [], _, _, _, _, _, _, _, _, _, _, _, _, _, _, _, _, _, _, _, _, _, _, _, _, _, _, _, rfl, hR0⟩
  case round =>
    clear hR0 hzs hz1 hz2
    rintro a Wr ⟨m, b8, ds, u9, u10, u11, u12, u13, u14, u15, u16, u17, u18, u19, u20, u21, u22, u23, u24, u25, u26, u27, u28, u29, u30, u31, u32, u33, u34, u35, rfl, hrel⟩
    have HREL := Lib.hid hrel
    have c8 : Wr.cell? ⟨b8, 0, none⟩ = some (.int .i64 (m : Int)) := by rw [hrel.k8.cell]; rfl
    have HM12 := hrel.m12
    have HS13 := hrel.s13
    have HSM := hrel.sm
    have hb8 := hrel.b8
    clear hrel
    refine wpIn_wide.2 ?_
    by_cases hm : m < 12
    · have hmi : (m : Int) < 12 := by omega
      have hm0 : (0 : Int) ≤ (m : Int) := by omega
      go_upto_region 6 with fail
      have k9 : Blk (Wr.alloc (.cells #[.int .i64 0] 3)) Wr.heap.size 3 #[.int .i64 0] := Blk.newAt _ _ rfl rfl
      have hbA : Below Wr.heap.size Wr (Wr.alloc (.cells #[.int .i64 0] 3)) := (Below.refl _ _).alloc (Nat.le_refl _) _
      have hsA : Wr.heap.size < (Wr.alloc (.cells #[.int .i64 0] 3)).heap.size := by simp
      generalize (Wr.alloc (.cells #[.int .i64 0] 3)) = WA at k9 hbA hsA ⊢
      have hrA := HREL.out.keep hbA HREL.out.k8.lt ⟨HREL.out.count.ltB, HREL.out.count.ltM⟩ (fun e he D hD => by obtain ⟨D', h1, _, h3⟩ := HREL.out.marks.lt e he; rw [h1] at hD; injection hD with hD; omega)
      have c8 : WA.cell? ⟨b8, 0, none⟩ = some (.int .i64 (m : Int)) := by rw [hrA.k8.cell]; rfl
      have c2 : WA.cell? ⟨W.heap.size, 0, none⟩ = some (.pointer (some ⟨B, 0, none⟩)) := by rw [hrA.k2.cell]; rfl
      have HRA := Lib.hid hrA
      have HK9 := Lib.hid k9
      have hb8l : b8 < WA.heap.size := hrA.k8.lt
      clear hbA k9 hrA
      go_wp2_with (first
        | (go_at_call 57; refine (present_any B (m : Int) WA).mono ?_; rintro e W1 ⟨rfl, hd1, hd2, hb1⟩; have HD := Lib.hid (And.intro hd1 hd2); have HB1 := Lib.hid hb1; clear hd1 hd2 hb1 c8 c2))
      have hs1 : WA.heap.size + 1 < W1.heap.size := HD.out.2.lt
      have hr1 : AheadR W B M n NN V s m b8 ds W1 := HRA.out.keep HB1.out HRA.out.k8.lt ⟨HRA.out.count.ltB, HRA.out.count.ltM⟩ (fun e he D hD => by obtain ⟨D', h1, _, h3⟩ := HRA.out.marks.lt e he; rw [h1] at hD; injection hD with hD; omega)
      have I0 : AheadJ W W1 B M n NN V s m b8 Wr.heap.size WA.heap.size ds [] W1 := ⟨hr1, by simpa using HK9.out.below HB1.out HK9.out.lt, by have := HF0.out; simpa using this, HD.out.1, HD.out.2, Nat.le_refl _⟩
      have HLM : Hid ((∀ e ∈ ds, ∀ D, e.target = .collected D → D < W1.heap.size) ∧ B < W1.heap.size ∧ M < W1.heap.size) := Lib.hid ⟨fun e he D hD => by
        obtain ⟨D', h1, _, h3⟩ := hr1.marks.lt e he
        rw [h1] at hD
        injection hD with hD
        omega, hr1.count.ltB, hr1.count.ltM⟩
      have HLR : Hid ((∀ e ∈ ds, ∀ D, e.target = .collected D → D < Wr.heap.size) ∧ B < Wr.heap.size ∧ M < Wr.heap.size ∧ b8 < Wr.heap.size) := Lib.hid ⟨fun e he D hD => by
        obtain ⟨D', h1, _, h3⟩ := HREL.out.marks.lt e he
        rw [h1] at hD
        injection hD with hD
        omega, HREL.out.count.ltB, HREL.out.count.ltM, HREL.out.k8.lt⟩
      clear hr1
      refine (wpIn_wide (n := 0)).1 ?_
      refine wpIn_rangeFunc_D (gf := 68) (lb := #[.pointer (some ⟨WA.heap.size, 0, none⟩), .pointer (some ⟨WA.heap.size + 1, 0, none⟩)]) rfl (enters_of Try.func68 (by kernel_rfl) rfl)
        (present_seq WA.heap.size (WA.heap.size + 1) B M n NN V (m : Int) (fun b => b = Wr.heap.size) W1 (WalkArith.wf_i64 (by omega)) hN (fun b hb => by subst hb; omega)) (fun _ => rfl)
        (AheadJ W W1 B M n NN V s m b8 Wr.heap.size WA.heap.size ds)
        (AheadX W B M n NN V s m b8 ds)
        (fun st A' B' hs hb => hs.keep hb (by omega) (by omega) (by omega) HLM.out.2 HLM.out.1)
        (fun st W' hs => ⟨hs.r.count, hs.e1, hs.e2⟩)
        (fun c st A' B' hs hb => hs.keep hb (by omega) HLM.out.2 HLM.out.1)
        I0
        (fun x a' W' => a' = { tmps := #[.pointer (some ⟨B, 0, none⟩), .int .i64 r, .pointer (some ⟨W.heap.size, 0, none⟩), undef, .int .i64 0, .bool false, .pointer (some ⟨W.heap.size + 1, 0, none⟩), .pointer (some ⟨W.heap.size + 1 + 1, 0, none⟩), .pointer (some ⟨b8, 0, none⟩), .pointer (some ⟨Wr.heap.size, 0, none⟩), u10, u11, u12, u13, .int .i64 (m : Int), .bool true, u16, u17, .pointer (some ⟨B, 0, none⟩), .int .i64 (m : Int), .func (.func 68) #[] #[.pointer (some ⟨WA.heap.size, 0, none⟩), .pointer (some ⟨WA.heap.size + 1, 0, none⟩)], .int .i64 (x.1 : Int), idv x.2, u23, u24, u25, u26, u27, u28, u29, u30, u31, u32, u33, u34, u35], defers := [] })
        (fun x a' W' l o o' _ h1 h2 h3 => h3) ?assign ?body ?done ?stop
      case assign =>
        intro l pre x W' K hlt hpre hi hK
        simp only [encV]
        gi_wp2
        exact hK _ _ (keepsFrom_of_below (Below.refl _ _)) (.of_below (Below.refl _ _)) hi rfl
      case body =>
        rintro l pre x a' W' hl hlt hpre hi rfl
        obtain ⟨q, hq⟩ : ∃ q, pre.length = q := ⟨_, rfl⟩
        have HI := Lib.hid hi
        have HQ : Hid ((pre ++ [x]).length = q + 1 ∧ pre.length = q) := Lib.hid ⟨by simp [hq], hq⟩
        have c9 : W'.cell? ⟨Wr.heap.size, 0, none⟩ = some (.int .i64 (q : Int)) := by rw [hi.k9.cell, hq]; rfl
        have f9 := hi.k9.frozen 0
        have hq2 : (q : Int) ≤ 2 := by have := hi.le; have := faults_le NN; omega
        have hq0 : (0 : Int) ≤ (q : Int) := by omega
        have hW1s : W1.heap.size ≤ W'.heap.size := hi.size
        clear hi hq hpre I0
        gi_wp2
        generalize hW2 : World.setCell W' _ _ = W2
        have hbS : Below Wr.heap.size W' W2 := by rw [← hW2]; exact (Below.refl Wr.heap.size W').setCell (p := ⟨Wr.heap.size, 0, none⟩) (Nat.le_refl _) _
        have hz2 : W2.heap.size = W'.heap.size := by rw [← hW2]; simp [World.setCell]
        have hoth : ∀ b, b ≠ Wr.heap.size → W2.heap[b]? = W'.heap[b]? := by rw [← hW2]; exact fun b hb => Below.heap_setCell _ _ _ _ hb
        have k92 : Blk W2 Wr.heap.size 3 #[.int .i64 ((q : Int) + 1)] := by rw [← hW2]; exact (HI.out.k9.store 0 _).same (by simp)
        have r2 : AheadR W B M n NN V s m b8 ds W2 := HI.out.r.keep hbS HLR.out.2.2.2 ⟨HLR.out.2.1, HLR.out.2.2.1⟩ HLR.out.1
        have e12 : Blk W2 WA.heap.size 28 #[.pointer (some ⟨B, 0, none⟩)] := (hoth _ (by omega)).trans HI.out.e1
        have e22 : Blk W2 (WA.heap.size + 1) 3 #[.int .i64 (m : Int)] := (hoth _ (by omega)).trans HI.out.e2
        have HKF : Hid (KeepsFrom W1.heap.size W' W2 ∧ Keep (fun b => b = Wr.heap.size) W' W2) := Lib.hid ⟨keepsFrom_row HI.out.k9 (by omega) hoth, by rw [← hW2]; exact .setCell _ _ _ rfl⟩
        have C9 : Hid (Wr.heap.size < W2.heap.size ∧ W2.cell? ⟨Wr.heap.size, 0, none⟩ = some (.int .i64 ((q : Int) + 1))) := Lib.hid ⟨k92.lt, by rw [k92.cell]; rfl⟩
        have C2 : Hid (W.heap.size < W2.heap.size ∧ W2.cell? ⟨W.heap.size, 0, none⟩ = some (.pointer (some ⟨B, 0, none⟩))) := Lib.hid ⟨r2.k2.lt, by rw [r2.k2.cell]; rfl⟩
        have C0 : Hid (B < W2.heap.size ∧ W2.cell? ⟨B, 0, none⟩ = some (.int .i64 (NN : Int))) := Lib.hid ⟨r2.count.ltB, r2.count.cell0⟩
        have HR2 := Lib.hid (And.intro r2 (And.intro k92 (And.intro e12 e22)))
        have HFA := Lib.hid fun W => faults_any (NN : Int) W
        obtain ⟨fa, hfa⟩ : ∃ fa, faults (NN : Int) = fa := ⟨_, rfl⟩
        rw [hfa] at HFA
        have HFX := Lib.hid hfa
        have hbX : Below W2.heap.size W2 W2.drew := (Below.refl _ _).drew
        clear hW2 hbS hoth k92 r2 e12 e22 c9 f9 hfa
        by_cases hd : fa < (q : Int) + 1
        · have hd' : decide (fa < (q : Int) + 1) = true := decide_eq_true hd
          refine region_round (S := fun W'' => Below W2.heap.size W2 W'') (by kernel_rfl) (fun ⟨_, _, h⟩ => h) (by kernel_rfl) ?_ (fun hHeld => ?_)
          · exact hbX
          refine tkH (v := (.int .i64 ((q : Int) + 1))) 0 ⟨some 25, _, _, _, _, _⟩ rfl (yields_one (by rfl) 3 _ rfl ⟨Wr.heap.size, 0, none⟩ rfl _ _ (fun _ hS => (hS.cell (p := ⟨Wr.heap.size, 0, none⟩) C9.out.1).trans C9.out.2) Try.underlying3 rfl) ?_
          try simp only [Act.put, nz1, nz2, nz3]
          refine tkH (v := (.pointer (some ⟨B, 0, none⟩))) 1 ⟨some 26, _, _, _, _, _⟩ rfl (yields_one (by rfl) 28 _ rfl ⟨W.heap.size, 0, none⟩ rfl _ _ (fun _ hS => (hS.cell (p := ⟨W.heap.size, 0, none⟩) C2.out.1).trans C2.out.2) Try.underlying28 rfl) ?_
          try simp only [Act.put, nz1, nz2, nz3]
          refine tkH (v := ?_) 2 ⟨some 27, _, _, _, _, _⟩ rfl (Or.inl ⟨by rfl, ?_⟩) ?_
          rotate_left
          · intro w hSw; (try dsimp only at hSw); go_simp; try (with_reducible rfl)
          try simp only [Act.put, nz1, nz2, nz3]
          refine tkH (v := ?_) 3 ⟨some 28, _, _, _, _, _⟩ rfl (Or.inl ⟨by rfl, ?_⟩) ?_
          rotate_left
          · intro w hSw; (try dsimp only at hSw); go_simp; try (with_reducible rfl)
          try simp only [Act.put, nz1, nz2, nz3]
          refine tkH (v := (.int .i64 (NN : Int))) 4 ⟨some 29, _, _, _, _, _⟩ rfl (yields_one (by rfl) 3 _ rfl ⟨B, 0, none⟩ rfl _ _ (fun _ hS => (hS.cell (p := ⟨B, 0, none⟩) C0.out.1).trans C0.out.2) Try.underlying3 rfl) ?_
          try simp only [Act.put, nz1, nz2, nz3]
          refine wpAnyH_ready (rs := [5]) (by kernel_rfl) (by simp) ?_
          refine (AllReadyH.cons (o := ⟨some 30, _, _, _, _, _⟩) rfl (fun K hK => ?_) AllReadyH.nil)
          (try rw [if_pos (by rfl)])
          go_simp
          refine (HFA.out _).mono ?_
          rintro e W7 ⟨rfl, h7⟩
          obtain rfl := h7.symm
          try dsimp only
          refine hK.out _ _ (hbX) (fun hHeld => ?_)
          clear hK K
          try simp only [Act.put, nz1, nz2, nz3]
          refine tkH (v := ?_) 6 ⟨some 31, _, _, _, _, _⟩ rfl (Or.inl ⟨by rfl, ?_⟩) ?_
          rotate_left
          · intro w hSw; (try dsimp only at hSw); go_simp; try (with_reducible rfl)
          try simp only [Act.put, nz1, nz2, nz3]
          refine wpAnyH_done (by kernel_rfl) ?_ _
          have r3 : AheadR W B M n NN V s m b8 ds W2.drew := HR2.out.1.keep hbX HR2.out.1.k8.lt ⟨HR2.out.1.count.ltB, HR2.out.1.count.ltM⟩ (fun e he D hD => by have := HLM.out.1 e he D hD; omega)
          have hkf3 : KeepsFrom W1.heap.size W' W2.drew := keepsFrom_trans HKF.out.1 (keepsFrom_of_below hbX)
          clear hbX
          generalize W2.drew = W3 at r3 hkf3 ⊢
          have c83 : W3.cell? ⟨b8, 0, none⟩ = some (.int .i64 (m : Int)) := by rw [r3.k8.cell]; rfl
          have c63 : W3.cell? ⟨W.heap.size + 1, 0, none⟩ = some (.int .i64 (((aheadF NN V s m).getD 0 : Nat) : Int)) := by rw [r3.k6.cell]; rfl
          have f63 := r3.k6.frozen 0
          have k7' : Blk (W3.setCell ⟨W.heap.size + 1, 0, none⟩ (.int .i64 (m : Int))) (W.heap.size + 1 + 1) 4 #[.bool (aheadF NN V s m).isSome] := r3.k7.far (by simp) _
          have c73 : (W3.setCell ⟨W.heap.size + 1, 0, none⟩ (.int .i64 (m : Int))).cell? ⟨W.heap.size + 1 + 1, 0, none⟩ = some (.bool (aheadF NN V s m).isSome) := by rw [k7'.cell]; rfl
          have f73 := k7'.frozen 0
          have HR3 := Lib.hid (And.intro r3 hkf3)
          have HK7' := Lib.hid k7'
          clear r3 hkf3 k7'
          gi_wp2
          obtain ⟨r3, hkf3⟩ := HR3.out
          have hb8' := r3.b8
          have hother : ∀ b, b ≠ W.heap.size + 1 → b ≠ W.heap.size + 1 + 1 → ((W3.setCell ⟨W.heap.size + 1, 0, none⟩ (.int .i64 (m : Int))).setCell ⟨W.heap.size + 1 + 1, 0, none⟩ (.bool true)).heap[b]? = W3.heap[b]? := fun b h1 h2 => (Below.heap_setCell _ _ _ _ h2).trans (Below.heap_setCell _ _ _ _ h1)
          refine ⟨keepsFrom_trans hkf3 (keepsFrom_trans (keepsFrom_row r3.k6 (by simp [World.setCell]) (fun b hb => Below.heap_setCell _ _ _ _ hb)) (keepsFrom_row HK7'.out (by simp [World.setCell]) (fun b hb => Below.heap_setCell _ _ _ _ hb))), rfl, ?_, (hother _ (by omega) (by omega)).trans r3.k2, ?_, ?_, (hother _ (by omega) (by omega)).trans r3.k8, hb8', r3.count.same (hother _ (by have := HLT0.out; omega) (by have := HLT0.out; omega)) (hother _ (by have := HLT0.out; omega) (by have := HLT0.out; omega)), ?_, ?_, HSM⟩
          · rw [HQ.out.1, HFX.out]
            omega
          · exact ((r3.k6.store 0 (.int .i64 (m : Int))).same (cs' := #[.int .i64 (m : Int)]) rfl).far (by simp) _
          · exact (HK7'.out.store 0 (.bool true)).same rfl
          · exact r3.marks.keep fun D hD hl hd _ => (hother D (by rintro rfl; have := r3.k6; unfold Blk at this; rw [this] at hd; cases hd) (by rintro rfl; have := r3.k7; unfold Blk at this; rw [this] at hd; cases hd)).trans hd
          · exact (r3.below.setCell (p := ⟨W.heap.size + 1, 0, none⟩) (by simp) _).setCell (p := ⟨W.heap.size + 1 + 1, 0, none⟩) (by simp; omega) _
        · have hd' : decide (fa < (q : Int) + 1) = false := decide_eq_false hd
          refine region_round (S := fun W'' => Below W2.heap.size W2 W'') (by kernel_rfl) (fun ⟨_, _, h⟩ => h) (by kernel_rfl) ?_ (fun hHeld => ?_)
          · exact hbX
          refine tkH (v := (.int .i64 ((q : Int) + 1))) 0 ⟨some 25, _, _, _, _, _⟩ rfl (yields_one (by rfl) 3 _ rfl ⟨Wr.heap.size, 0, none⟩ rfl _ _ (fun _ hS => (hS.cell (p := ⟨Wr.heap.size, 0, none⟩) C9.out.1).trans C9.out.2) Try.underlying3 rfl) ?_
          try simp only [Act.put, nz1, nz2, nz3]
          refine tkH (v := (.pointer (some ⟨B, 0, none⟩))) 1 ⟨some 26, _, _, _, _, _⟩ rfl (yields_one (by rfl) 28 _ rfl ⟨W.heap.size, 0, none⟩ rfl _ _ (fun _ hS => (hS.cell (p := ⟨W.heap.size, 0, none⟩) C2.out.1).trans C2.out.2) Try.underlying28 rfl) ?_
          try simp only [Act.put, nz1, nz2, nz3]
          refine tkH (v := ?_) 2 ⟨some 27, _, _, _, _, _⟩ rfl (Or.inl ⟨by rfl, ?_⟩) ?_
          rotate_left
          · intro w hSw; (try dsimp only at hSw); go_simp; try (with_reducible rfl)
          try simp only [Act.put, nz1, nz2, nz3]
          refine tkH (v := ?_) 3 ⟨some 28, _, _, _, _, _⟩ rfl (Or.inl ⟨by rfl, ?_⟩) ?_
          rotate_left
          · intro w hSw; (try dsimp only at hSw); go_simp; try (with_reducible rfl)
          try simp only [Act.put, nz1, nz2, nz3]
          refine tkH (v := (.int .i64 (NN : Int))) 4 ⟨some 29, _, _, _, _, _⟩ rfl (yields_one (by rfl) 3 _ rfl ⟨B, 0, none⟩ rfl _ _ (fun _ hS => (hS.cell (p := ⟨B, 0, none⟩) C0.out.1).trans C0.out.2) Try.underlying3 rfl) ?_
          try simp only [Act.put, nz1, nz2, nz3]
          refine wpAnyH_ready (rs := [5]) (by kernel_rfl) (by simp) ?_
          refine (AllReadyH.cons (o := ⟨some 30, _, _, _, _, _⟩) rfl (fun K hK => ?_) AllReadyH.nil)
          (try rw [if_pos (by rfl)])
          go_simp
          refine (HFA.out _).mono ?_
          rintro e W7 ⟨rfl, h7⟩
          obtain rfl := h7.symm
          try dsimp only
          refine hK.out _ _ (hbX) (fun hHeld => ?_)
          clear hK K
          try simp only [Act.put, nz1, nz2, nz3]
          refine tkH (v := ?_) 6 ⟨some 31, _, _, _, _, _⟩ rfl (Or.inl ⟨by rfl, ?_⟩) ?_
          rotate_left
          · intro w hSw; (try dsimp only at hSw); go_simp; try (with_reducible rfl)
          try simp only [Act.put, nz1, nz2, nz3]
          refine wpAnyH_done (by kernel_rfl) ?_ _
          have HBX := Lib.hid hbX
          clear hbX
          gi_wp2
          obtain ⟨r2, k92, e12, e22⟩ := HR2.out
          refine ⟨keepsFrom_trans HKF.out.1 (keepsFrom_of_below HBX.out), HKF.out.2.trans (Keep.of_below HBX.out), ?_⟩
          refine ⟨r2.keep HBX.out r2.k8.lt ⟨r2.count.ltB, r2.count.ltM⟩ (fun e he D hD => by have := HLM.out.1 e he D hD; omega), ?_, ?_, e12, e22, by show W1.heap.size ≤ W2.heap.size; omega⟩
          · rw [HQ.out.1]
            exact k92
          · rw [HQ.out.1, HFX.out]
            omega
      case done =>
        rintro D W' hD hi hK
        have hmany : many NN V m = false := by
          unfold many
          exact decide_eq_false (by have := hi.le; omega)
        have c8 : W'.cell? ⟨b8, 0, none⟩ = some (.int .i64 (m : Int)) := by rw [hi.r.k8.cell]; rfl
        have hmk : Marks W.heap.size ({ target := .collected D, args := #[] } :: ds) W' := ⟨D, rfl, by have := hi.r.b8; have := hi.r.below.size; omega, hK, fun e he hc => by have := HLM.out.1 e he D hc; omega, hi.r.marks⟩
        have hst := aheadF_step NN V HSM
        rw [hmany] at hst
        simp only [Bool.false_eq_true, if_false] at hst
        have HR := Lib.hid (And.intro hi.r (And.intro hmk hst))
        have hsz : W1.heap.size ≤ W'.heap.size := hi.size
        clear hi hK hmk hst hmany I0
        gi_wp2
        go_wp2_with fail
        have hbN : Below W'.heap.size W' (W'.alloc (.cells #[.int .i64 ((m : Int) + 1)] 3)) := (Below.refl _ _).alloc (Nat.le_refl _) _
        have k8N : Blk (W'.alloc (.cells #[.int .i64 ((m : Int) + 1)] 3)) W'.heap.size 3 #[.int .i64 ((m : Int) + 1)] := Blk.newAt _ _ rfl rfl
        have rN := HR.out.1
        refine ⟨⟨m + 1, W'.heap.size, { target := .collected D, args := #[] } :: ds, _, _, _, _, _, _, _, _, _, _, _, _, _, _, _, _, _, _, _, _, _, _, _, _, _, _, _, rfl, ⟨rN.k2.below hbN rN.k2.lt, ?_, ?_, k8N, by omega, rN.count.below hbN, HR.out.2.1.keep fun D' _ hl hd _ => (hbN.block D' hl).trans hd, rN.below.trans (hbN.mono rN.below.size), by omega, by omega, rN.s13⟩⟩, ?_⟩
        · rw [HR.out.2.2]
          exact rN.k6.below hbN rN.k6.lt
        · rw [HR.out.2.2]
          exact rN.k7.below hbN rN.k7.lt
        · show 13 - mAt (.pointer (some ⟨W'.heap.size, 0, none⟩)) _ < 13 - mAt (.pointer (some ⟨b8, 0, none⟩)) Wr
          rw [mAt_blk (m := m + 1) k8N, mAt_blk HREL.out.k8]
          omega
      case stop =>
        rintro D c pre W' hD hpre hne hx hK
        obtain rfl := hx.c
        have hmany : many NN V m = true := by
          unfold many
          exact decide_eq_true (by have := hx.gt; have := hpre.length_le; omega)
        have c8 : W'.cell? ⟨b8, 0, none⟩ = some (.int .i64 (m : Int)) := by rw [hx.k8.cell]; rfl
        have hmk : Marks W.heap.size ({ target := .collected D, args := #[] } :: ds) W' := ⟨D, rfl, by have := hx.b8; omega, hK, fun e he hc => by have := HLM.out.1 e he D hc; omega, hx.marks⟩
        have hst := aheadF_step NN V HSM
        rw [hmany] at hst
        simp only [if_true] at hst
        have HR := Lib.hid (And.intro hx (And.intro hmk hst))
        clear hx hK hmk hst hmany I0
        gi_wp2
        go_wp2_with fail
        have hbN : Below W'.heap.size W' (W'.alloc (.cells #[.int .i64 ((m : Int) + 1)] 3)) := (Below.refl _ _).alloc (Nat.le_refl _) _
        have k8N : Blk (W'.alloc (.cells #[.int .i64 ((m : Int) + 1)] 3)) W'.heap.size 3 #[.int .i64 ((m : Int) + 1)] := Blk.newAt _ _ rfl rfl
        have rN := HR.out.1
        have hs3 := rN.k8.lt
        have hs4 := rN.b8
        refine ⟨⟨m + 1, W'.heap.size, { target := .collected D, args := #[] } :: ds, _, _, _, _, _, _, _, _, _, _, _, _, _, _, _, _, _, _, _, _, _, _, _, _, _, _, _, rfl, ⟨rN.k2.below hbN rN.k2.lt, ?_, ?_, k8N, by omega, rN.count.below hbN, HR.out.2.1.keep fun D' _ hl hd _ => (hbN.block D' hl).trans hd, rN.below.trans (hbN.mono rN.below.size), by omega, by omega, HREL.out.s13⟩⟩, ?_⟩
        · rw [HR.out.2.2]
          exact rN.k6.below hbN rN.k6.lt
        · rw [HR.out.2.2]
          exact rN.k7.below hbN rN.k7.lt
        · show 13 - mAt (.pointer (some ⟨W'.heap.size, 0, none⟩)) _ < 13 - mAt (.pointer (some ⟨b8, 0, none⟩)) Wr
          rw [mAt_blk (m := m + 1) k8N, mAt_blk HREL.out.k8]
          omega
    · have hmi : ¬ (m : Int) < 12 := by omega
      have HRS : Hid (aheadF NN V s m = aheadO NN V r) := Lib.hid (by
        refine HRES.out _ ?_
        by_cases h12 : m = 12
        · subst h12
          exact .inl rfl
        · exact .inr ⟨by omega, by unfold aheadF; rw [show m - s = 0 from by omega]; simp⟩)
      have C6 : Hid (W.heap.size + 1 < Wr.heap.size ∧ Wr.cell? ⟨W.heap.size + 1, 0, none⟩ = some (.int .i64 (((aheadF NN V s m).getD 0 : Nat) : Int))) := Lib.hid ⟨HREL.out.k6.lt, by rw [HREL.out.k6.cell]; rfl⟩
      have C7 : Hid (W.heap.size + 1 + 1 < Wr.heap.size ∧ Wr.cell? ⟨W.heap.size + 1 + 1, 0, none⟩ = some (.bool (aheadF NN V s m).isSome)) := Lib.hid ⟨HREL.out.k7.lt, by rw [HREL.out.k7.cell]; rfl⟩
      have hbX : Below Wr.heap.size Wr Wr.drew := (Below.refl _ _).drew
      go_wp2_with fail
      gi_wp2
      refine wpIn_wide.2 ?_
      refine wp_region_held_drew (S := fun W'' => Below Wr.heap.size Wr W'') (by kernel_rfl) ?_ (fun hHeld => ?_)
      · exact hbX
      refine wpAnyH_ready (rs := [0, 1]) (by kernel_rfl) (by simp) ?_
      refine (AllReadyH.cons (o := ⟨some 34, _, _, _, _, _⟩) rfl (fun K hK => ?_) (AllReadyH.cons (o := ⟨some 35, _, _, _, _, _⟩) rfl (fun K hK => ?_) AllReadyH.nil))
      · (try rw [if_pos (by rfl)])
        refine oper_load 3 _ rfl _ (.int .i64 (((aheadF NN V s m).getD 0 : Nat) : Int)) rfl (loadVar_one Try.underlying3 rfl ((hbX.cell (p := _) C6.out.1).trans C6.out.2)) ?_
        try simp only [Act.put, nz1, nz2, nz3]
        try dsimp only
        refine hK.out _ _ (hbX) (fun hHeld => ?_)
        clear hK K
        try simp only [Act.put, nz1, nz2, nz3]
        refine wpAnyH_ready (rs := [1, 2]) (by kernel_rfl) (by simp) ?_
        refine (AllReadyH.cons (o := ⟨some 35, _, _, _, _, _⟩) rfl (fun K hK => ?_) (AllReadyH.cons (o := ⟨some 4, _, _, _, _, _⟩) rfl (fun K hK => ?_) AllReadyH.nil))
        · (try rw [if_pos (by rfl)])
          refine oper_load 4 _ rfl _ (.bool (aheadF NN V s m).isSome) rfl (loadVar_one Try.underlying4 rfl ((hbX.cell (p := _) C7.out.1).trans C7.out.2)) ?_
          try simp only [Act.put, nz1, nz2, nz3]
          try dsimp only
          refine hK.out _ _ (hbX) (fun hHeld => ?_)
          clear hK K
          try simp only [Act.put, nz1, nz2, nz3]
          refine wpAnyH_ready (rs := [2]) (by kernel_rfl) (by simp) ?_
          refine (AllReadyH.cons (o := ⟨some 4, _, _, _, _, _⟩) rfl (fun K hK => ?_) AllReadyH.nil)
          (try rw [if_pos (by rfl)])
          go_simp
          try dsimp only
          refine hK.out _ _ (hbX) (fun hHeld => ?_)
          clear hK K
          try simp only [Act.put, nz1, nz2, nz3]
          refine wpAnyH_ready (rs := [3]) (by kernel_rfl) (by simp) ?_
          refine (AllReadyH.cons (o := ⟨some 5, _, _, _, _, _⟩) rfl (fun K hK => ?_) AllReadyH.nil)
          (try rw [if_pos (by rfl)])
          go_simp
          try dsimp only
          refine hK.out _ _ (hbX) (fun hHeld => ?_)
          clear hK K
          try simp only [Act.put, nz1, nz2, nz3]
          refine wpAnyH_done (by kernel_rfl) ?_ _
          gi_wp2
          have hmk : Marks W.heap.size ds Wr.drew := HREL.out.marks.keep (fun _ _ _ h _ => h)
          rw [HRS.out]
          exact leaves_marks (by simp) _ _ hmk fun w' hb => ⟨_, results_tmp2 rfl _ _ _, rfl, (HREL.out.below.drew).trans hb⟩
        · (try rw [if_pos (by rfl)])
          go_simp
          try dsimp only
          refine hK.out _ _ (hbX) (fun hHeld => ?_)
          clear hK K
          try simp only [Act.put, nz1, nz2, nz3]
          refine wpAnyH_ready (rs := [1]) (by kernel_rfl) (by simp) ?_
          refine (AllReadyH.cons (o := ⟨some 35, _, _, _, _, _⟩) rfl (fun K hK => ?_) AllReadyH.nil)
          (try rw [if_pos (by rfl)])
          refine oper_load 4 _ rfl _ (.bool (aheadF NN V s m).isSome) rfl (loadVar_one Try.underlying4 rfl ((hbX.cell (p := _) C7.out.1).trans C7.out.2)) ?_
          try simp only [Act.put, nz1, nz2, nz3]
          try dsimp only
          refine hK.out _ _ (hbX) (fun hHeld => ?_)
          clear hK K
          try simp only [Act.put, nz1, nz2, nz3]
          refine wpAnyH_ready (rs := [3]) (by kernel_rfl) (by simp) ?_
          refine (AllReadyH.cons (o := ⟨some 5, _, _, _, _, _⟩) rfl (fun K hK => ?_) AllReadyH.nil)
          (try rw [if_pos (by rfl)])
          go_simp
          try dsimp only
          refine hK.out _ _ (hbX) (fun hHeld => ?_)
          clear hK K
          try simp only [Act.put, nz1, nz2, nz3]
          refine wpAnyH_done (by kernel_rfl) ?_ _
          gi_wp2
          have hmk : Marks W.heap.size ds Wr.drew := HREL.out.marks.keep (fun _ _ _ h _ => h)
          rw [HRS.out]
          exact leaves_marks (by simp) _ _ hmk fun w' hb => ⟨_, results_tmp2 rfl _ _ _, rfl, (HREL.out.below.drew).trans hb⟩
      · (try rw [if_pos (by rfl)])
        refine oper_load 4 _ rfl _ (.bool (aheadF NN V s m).isSome) rfl (loadVar_one Try.underlying4 rfl ((hbX.cell (p := _) C7.out.1).trans C7.out.2)) ?_
        try simp only [Act.put, nz1, nz2, nz3]
        try dsimp only
        refine hK.out _ _ (hbX) (fun hHeld => ?_)
        clear hK K
        try simp only [Act.put, nz1, nz2, nz3]
        refine wpAnyH_ready (rs := [0]) (by kernel_rfl) (by simp) ?_
        refine (AllReadyH.cons (o := ⟨some 34, _, _, _, _, _⟩) rfl (fun K hK => ?_) AllReadyH.nil)
        (try rw [if_pos (by rfl)])
        refine oper_load 3 _ rfl _ (.int .i64 (((aheadF NN V s m).getD 0 : Nat) : Int)) rfl (loadVar_one Try.underlying3 rfl ((hbX.cell (p := _) C6.out.1).trans C6.out.2)) ?_
        try simp only [Act.put, nz1, nz2, nz3]
        try dsimp only
        refine hK.out _ _ (hbX) (fun hHeld => ?_)
        clear hK K
        try simp only [Act.put, nz1, nz2, nz3]
        refine wpAnyH_ready (rs := [2]) (by kernel_rfl) (by simp) ?_
        refine (AllReadyH.cons (o := ⟨some 4, _, _, _, _, _⟩) rfl (fun K hK => ?_) AllReadyH.nil)
        (try rw [if_pos (by rfl)])
        go_simp
        try dsimp only
        refine hK.out _ _ (hbX) (fun hHeld => ?_)
        clear hK K
        try simp only [Act.put, nz1, nz2, nz3]
        refine wpAnyH_ready (rs := [3]) (by kernel_rfl) (by simp) ?_
        refine (AllReadyH.cons (o := ⟨some 5, _, _, _, _, _⟩) rfl (fun K hK => ?_) AllReadyH.nil)
        (try rw [if_pos (by rfl)])
        go_simp
        try dsimp only
        refine hK.out _ _ (hbX) (fun hHeld => ?_)
        clear hK K
        try simp only [Act.put, nz1, nz2, nz3]
        refine wpAnyH_done (by kernel_rfl) ?_ _
        gi_wp2
        have hmk : Marks W.heap.size ds Wr.drew := HREL.out.marks.keep (fun _ _ _ h _ => h)
        rw [HRS.out]
        exact leaves_marks (by simp) _ _ hmk fun w' hb => ⟨_, results_tmp2 rfl _ _ _, rfl, (HREL.out.below.drew).trans hb⟩
end Go.Proofs.Ytbgojlcciealiaa
