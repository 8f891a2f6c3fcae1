/-
  tree.Restore: of any size and any tops, in whatever memory. No condition.
-/
import Derived.Test.YtkkanaefngggoaaDoorTreePeaks
namespace Go.Proofs.YtkkanaefngggoaaDoor
open Go Go.RowKit Go.Shelf TreeM
attribute [local go_sem] Oper.semAt_some

set_option maxRecDepth 100000 in
set_option maxHeartbeats 1000000 in
/-- Of a size that no list has. -/
theorem restore_range (size : Int) (h : size < 0 ∨ 1099511627776 < size) (v : Value) (w : World) : CallsIn Fence.wide 0 Tryd.prog 30 #[.int .i64 size, v] w fun e w' => e = .returned (.tuple #[.pointer none, .int .i64 1]) ∧ w' = w := by
  by_cases h0 : size < 0
  · have d0 : decide (size < 0) = true := decide_eq_true h0
    clear h
    refine callsIn_of_wp_marks Tryd.func30 rfl trivial ?_ rfl
    simp only [Tryd.ntmps30, List.size_toArray, List.length_cons, List.length_nil, Nat.reduceAdd, Nat.reduceSub, Array.replicate_succ, Array.replicate_zero, List.push_toArray, List.append_toArray, List.nil_append, List.cons_append]
    gi_wp2
    exact ⟨_, results_tmp2 rfl _ _ _, rfl, rfl⟩
  · have d0 : decide (size < 0) = false := decide_eq_false h0
    have d1 : decide (1099511627776 < size) = true := decide_eq_true (by omega)
    clear h
    refine callsIn_of_wp_marks Tryd.func30 rfl trivial ?_ rfl
    simp only [Tryd.ntmps30, List.size_toArray, List.length_cons, List.length_nil, Nat.reduceAdd, Nat.reduceSub, Array.replicate_succ, Array.replicate_zero, List.push_toArray, List.append_toArray, List.nil_append, List.cons_append]
    gi_wp2
    exact ⟨_, results_tmp2 rfl _ _ _, rfl, rfl⟩
theorem own_mono {w : World} {B B' n k : Nat} {e : TypeId} {v : Value} {xs : List Value} (h : w.ownsRow B e k v n xs) (hB : B' ≤ B) : w.ownsRow B' e k v n xs := by
  refine ⟨h.1, ?_⟩
  rcases h.2 with h0 | ⟨g, cap, cur, rfl, h2, h3⟩
  · exact .inl h0
  · exact .inr ⟨g, cap, cur, rfl, Nat.le_trans hB h2, h3⟩
theorem Turn.putObj {S : Nat → Prop} {a w : World} (h : Turn S a w) {l : Nat} (hl : l < a.heap.size → S l) (o : Obj) : Turn S a (w.putObj l o) :=
  ⟨h.os, h.tape, h.output, by simpa [World.putObj] using h.size, fun i hi hn => (World.putObj_heap_other (by rintro rfl; exact hn (hl hi))).trans (h.block i hi hn)⟩
/-- A range that has just been laid of a row of its own. -/
theorem range_new {W W4 : World} {B n m d : Nat} {A4 : Option Addr} {c4 : Nat} {ts : List D} (ho : W4.ownsRow W.heap.size 30 32 (.slice A4 m c4) ts.length (idCells ts)) (hb : Below W.heap.size W W4) (hp : ts.length = pop n) (hn : n ≤ 1099511627776) (hD : d < W.heap.size) (hB : B ≤ W.heap.size) (o : Obj) :
    ∃ Z, RangeAt ((W4.alloc (.cells #[.int .i64 (n : Int), .slice A4 m c4] 71)).putObj d o) Z W4.heap.size n ts ∧ ∀ i, Z i → B ≤ i := by
  have hz := hb.size
  have ht : Turn (fun i => i = d) W4 ((W4.alloc (.cells #[.int .i64 (n : Int), .slice A4 m c4] 71)).putObj d o) := ((Turn.refl (fun i => i = d) W4).alloc _).putObj (fun _ => rfl) o
  refine ⟨fun i => W.heap.size ≤ i ∧ i < W4.heap.size + 1, ⟨.slice A4 m c4, ?_, own_mono (ht.own ho fun i hi => ?_) (Nat.zero_le _), ⟨hz, by omega⟩, fun i hi => ?_, fun i hi => ?_, hp, hn⟩, fun i hi => by omega⟩
  · exact (World.putObj_heap_other (by omega)).trans (Blk.new W4 71 #[.int .i64 (n : Int), .slice A4 m c4])
  · have := (ho.lt i hi).1
    omega
  · have := ho.lt i hi
    omega
  · have : ((W4.alloc (.cells #[.int .i64 (n : Int), .slice A4 m c4] 71)).putObj d o).heap.size = W4.heap.size + 1 := by simp [World.putObj]
    omega
set_option maxRecDepth 100000 in
set_option maxHeartbeats 1000000 in
theorem restore_any (n : Nat) (hn : n ≤ 1099511627776) (v : Value) (ts : List D) (w : World) (hr : RdI w (fun b => b < w.heap.size) v ts) : CallsIn Fence.wide 0 Tryd.prog 30 #[.int .i64 (n : Int), v] w fun e w' => Below w.heap.size w w' ∧
    if ts.length = pop n then ∃ g Z, e = .returned (.tuple #[.pointer (some ⟨g, 0, none⟩), .int .i64 0]) ∧ RangeAt w' Z g n ts ∧ ∀ i, Z i → w.heap.size ≤ i else e = .returned (.tuple #[.pointer none, .int .i64 60]) := by
  obtain ⟨A, c, rfl, _⟩ := id hr
  obtain ⟨m, hm⟩ : ∃ m, ts.length = m := ⟨_, rfl⟩
  obtain ⟨q, hq⟩ : ∃ q, pop n = q := ⟨_, rfl⟩
  have HQ := Lib.hid hq
  rw [hm, hq]
  have d0 : decide ((n : Int) < 0) = false := decide_eq_false (by omega)
  have d1 : decide (1099511627776 < (n : Int)) = false := decide_eq_false (by omega)
  rw [hm] at hr
  have HR := Lib.hid hr
  have HM := Lib.hid hm
  clear hr hm hq
  refine callsIn_of_wp_marks Tryd.func30 rfl trivial ?_ rfl
  simp only [Tryd.ntmps30, List.size_toArray, List.length_cons, List.length_nil, Nat.reduceAdd, Nat.reduceSub, Array.replicate_succ, Array.replicate_zero, List.push_toArray, List.append_toArray, List.nil_append, List.cons_append]
  gi_wp2_with (refine ⟨trivial, rfl, ?_⟩; gi_at_call 29; refine (peaks_any n _).mono ?_; rintro e W2 ⟨rfl, rfl⟩)
  obtain ⟨W3, hW3⟩ : ∃ W3, (w.alloc (.cells #[.int .i64 0] 3)).alloc (.cells #[.int .i64 (n : Int)] 3) = W3 := ⟨_, rfl⟩
  rw [hW3]
  have h6 : Blk W3 w.heap.size 3 #[.int .i64 0] := by rw [← hW3]; exact (Blk.new w _ _).alloc _
  have h7 : Blk W3 (w.heap.size + 1) 3 #[.int .i64 (n : Int)] := by rw [← hW3]; exact Blk.newAt _ _ (by simp) rfl
  have hb3 : Below w.heap.size w W3 := by rw [← hW3]; exact ((Below.refl _ _).alloc (Nat.le_refl _) _).alloc (by simp) _
  have hz3 : W3.heap.size = w.heap.size + 2 := by rw [← hW3]; simp
  have HZ := Lib.hid hz3
  clear hW3
  refine wpIn_rangeFunc_C (gf := 50) (lb := #[.pointer (some ⟨w.heap.size + 1, 0, none⟩)]) rfl (enters_of Tryd.func50 (by kernel_rfl) rfl)
    (peaks_seq (fun b => b = w.heap.size) (w.heap.size + 1) n hn W3 (h7.cell 0) (by omega)) (fun _ => rfl)
    (fun pre W => Blk W w.heap.size 3 #[.int .i64 (pre.length : Int)] ∧ Below w.heap.size w W)
    (fun _ _ _ => False)
    (fun s A B hs hb => ⟨hs.1.below hb (by omega), hs.2.trans (hb.mono (by omega))⟩)
    (fun _ _ _ _ hs _ => hs)
    ⟨h6, hb3⟩
    (fun x a' W => a' = { tmps := #[.int .i64 (n : Int), .slice A m c, undef, undef, .pointer none, .int .i64 0, .pointer (some ⟨w.heap.size, 0, none⟩), .int .i64 (n : Int), .bool false, .bool false, .int .i64 (n : Int), .bool false, .bool false, .int .i64 (n : Int), .func (.func 50) #[] #[.pointer (some ⟨w.heap.size + 1, 0, none⟩)], .int .i64 (x.1 : Int), .int .i64 (x.2 : Int), undef, undef, undef, undef, undef, undef, undef, undef, undef, undef, undef], defers := [] })
    (fun x a' W l o o' _ h1 h2 h3 => h3) ?assign ?body ?done ?stop
  case assign =>
    intro l pre x W K hlt hpre hi hK
    have HI := Lib.hid hi
    have HKK := Lib.hid hK
    clear hi hK h6 h7 hb3
    unfold encPk
    simp only [List.zip_toArray, List.zip_cons_cons, List.zip_nil_right, List.foldl_toArray, List.foldl_cons, List.foldl_nil, List.setIfInBounds_toArray, List.set_cons_zero, List.set_cons_succ]
    gi_wp2
    exact HKK.out _ _ (keepsFrom_of_below (Below.refl _ _)) (.refl _ _) HI.out rfl
  case body =>
    rintro l pre x a' W hl hlt hpre ⟨hS, hb⟩ rfl
    have hpl : (pre.length : Int) ≤ 1000 := by
      have h1 := ((List.prefix_append pre [x]).trans hpre).length_le
      rw [pk_length] at h1
      have := pop_le 41 n (by omega)
      omega
    have hp0 : (0 : Int) ≤ (pre.length : Int) := by omega
    have k6 := hS.cell 0
    have f6 := hS.frozen 0
    have HS := Lib.hid hS
    have HB := Lib.hid hb
    have HLL := Lib.hid (show (pre ++ [x]).length = pre.length + 1 by simp)
    clear hS hb h6 h7 hb3
    generalize pre.length = q at *
    gi_wp2
    refine ⟨keepsFrom_row HS.out (by simp [World.setCell]) (fun b hb => Below.heap_setCell _ _ _ b hb), Keep.setCell _ _ _ rfl, ?_, HB.out.setCell (by simp) _⟩
    rw [HLL.out]
    exact (HS.out.store 0 (.int .i64 ((q : Int) + 1))).same (by simp)
  case done =>
    rintro D W hD ⟨hS, hb⟩ hK
    rw [pk_length] at hS
    have hpl : pop n ≤ 1000 := by
      have := pop_le 41 n (by omega)
      omega
    rw [HQ.out] at hS hpl
    have k6 := hS.cell 0
    have HB := Lib.hid hb
    have HD := Lib.hid hK
    have HLT := Lib.hid hS.lt
    clear hb hK h6 h7 hb3
    by_cases he : m = q
    · have d6 : ((m : Int) == (q : Int)) = true := by rw [beq_iff_eq, he]
      have HCL : Hid (CallsIn Fence.wide 0 Tryd.prog 49 #[.slice A m c] W fun e w' => ∃ A4 c4, e = .returned (.slice A4 m c4) ∧ w'.ownsRow W.heap.size 30 32 (.slice A4 m c4) ts.length (idCells ts) ∧ Below W.heap.size W w') := Lib.hid (((callsIn_wide (n := 0)).2 (clone_any (.slice A m c) ts W ((HR.out.old HB.out).mono fun b hb => Nat.lt_of_lt_of_le hb HB.out.size))).mono (by
        rintro e w' ⟨v4, rfl, ho, hb⟩
        obtain ⟨A4, c4, rfl, _⟩ := own_len ho
        rw [HM.out] at ho ⊢
        exact ⟨A4, c4, rfl, ho, hb⟩))
      have HNN := Lib.hid (show ts.length = pop n by rw [HM.out, HQ.out, he])
      have d7 : ((m : Int) == (q : Int)) = true := by rw [beq_iff_eq, he]
      have HE := Lib.hid he
      clear he hS
      gi_wp2_with (refine ⟨trivial, rfl, ?_⟩; gi_at_call 49; refine HCL.out.mono ?_; rintro e W4 ⟨A4, c4, rfl, ho4, hb4⟩; have HO4 := Lib.hid ho4; have HB4 := Lib.hid hb4; clear ho4 hb4)
      have hDl : D < W.heap.size := (Array.getElem?_eq_some_iff.1 HD.out).1
      have hD5 : (W4.alloc (.cells #[.int .i64 (n : Int), .slice A4 q c4] 71)).heap[D]? = some (.deferred (some [])) := (Below.heap_alloc _ _ _ (Nat.lt_of_lt_of_le hDl HB4.out.size)).trans ((HB4.out.block D hDl).trans HD.out)
      refine ⟨by simp, .inl ⟨_, _, rfl, run_takeDeferred hD5, ?_⟩⟩
      have hO := HO4.out
      rw [HE.out] at hO
      refine ⟨_, results_tmp2 rfl _ _ _, ?_⟩
      exact ⟨below_putObj ((HB.out.trans (HB4.out.mono HB.out.size)).alloc (Nat.le_trans HB.out.size HB4.out.size) _) _ (by have := HZ.out; omega), _, rfl, range_new hO HB4.out HNN.out hn hDl HB.out.size _⟩
    · have d6 : ((m : Int) == (q : Int)) = false := by rw [beq_eq_false_iff_ne]; omega
      gi_wp2
      refine ⟨by simp, .inl ⟨_, _, rfl, run_takeDeferred HD.out, ?_⟩⟩
      exact ⟨_, results_tmp2 rfl _ _ _, below_putObj HB.out _ (by have := HZ.out; omega), rfl⟩
  case stop =>
    rintro D c pre W _ _ _ h _
    exact h.elim
end Go.Proofs.YtkkanaefngggoaaDoor
