/-
  tree's greatest: of every number of not more than 2^40. No condition.
  tree.Peaks: the whole trees of a list of any size of not more than 2^40, as an iterator; whoever wants no more of them. No condition.
  tree.Restore: of any size and any tops, in whatever memory. No condition.
-/
import Derived.Test.YtphknicdllcbmaaDoorTreeFnL
import Derived.Test.YtphknicdllcbmaaDoorPartBase
import Derived.Test.YtphknicdllcbmaaDoorRd
import Derived.Test.YtphknicdllcbmaaDoorTreeMath
import Derived.Lib.BitFns
import Derived.Lib.Strings
import Derived.Lib.Small
import Derived.Lib.Walk
import Derived.Lib.Hide
import Derived.Deep.DeepMust
import Derived.Test.YtphknicdllcbmaaDoorTreeFn
namespace Go.Proofs.YtphknicdllcbmaaDoor
open Go Go.RowKit TreeM
set_option maxHeartbeats 1000000 in
set_option maxRecDepth 100000 in
theorem greatest_any (n : Nat) (h0 : n ≠ 0) (hn : n ≤ 1099511627776) (w : World) : Calls Tryd.prog 52 #[.int .i64 (n : Int)] w fun e w' => e = .returned (.int .i64 (top2 n : Int)) ∧ w' = w := by
  have hl := bitLen_log2 n h0 (by omega)
  have hle : Nat.log2 n ≤ 40 := by
    have h1 := Nat.log2_self_le h0
    have h2 : 2 ^ Nat.log2 n < 2 ^ 41 := by omega
    have := (Nat.pow_lt_pow_iff_right (a := 2) (by omega)).1 h2
    omega
  have HL := Lib.hid (len_any n w (by omega))
  have HT : Hid (top2 n = 2 ^ Nat.log2 n) := Lib.hid rfl
  rw [hl] at HL
  have hn0 : (n : Int) ≤ 1099511627776 := by omega
  generalize Nat.log2 n = k at *
  rw [HT.out]
  clear hl HT
  go_enter Tryd.func52, Tryd.ntmps52
  go_wp2_with (go_at_call 59; refine HL.out.mono ?_; rintro e w2 ⟨rfl, rfl⟩)
  have hp : (2 ^ k : Nat) ≤ 2 ^ 40 := Nat.pow_le_pow_right (by omega) hle
  have he : wrap64 ((2 : Int) ^ k) = ((2 ^ k : Nat) : Int) := by
    rw [Int.natCast_pow]
    have e : ((2 : Nat) : Int) ^ k = ((2 ^ k : Nat) : Int) := by rw [Int.natCast_pow]
    have e2 : (2 : Int) ^ k = ((2 ^ k : Nat) : Int) := e
    rw [e2]
    exact w64 (Int.natCast_nonneg _) (by omega)
  rw [he]
  go_ret
  exact ⟨rfl, rfl⟩
end Go.Proofs.YtphknicdllcbmaaDoor
namespace Go.Proofs.YtphknicdllcbmaaDoor
open Go Go.RowKit Go.Shelf TreeM
attribute [local go_sem] Oper.semAt_some

def encPk (x : Nat × Nat) : Array Value := #[.int .i64 (x.1 : Int), .int .i64 (x.2 : Int)]
set_option maxRecDepth 100000 in
set_option maxHeartbeats 1000000 in
theorem peaks_any (n : Nat) (w : World) : CallsIn Fence.wide 0 Tryd.prog 38 #[.int .i64 (n : Int)] w fun e w' => e = .returned (.func (.func 51) #[] #[.pointer (some ⟨w.heap.size, 0, none⟩)]) ∧ w' = w.alloc (.cells #[.int .i64 (n : Int)] 3) := by
  refine callsIn_of_wp Tryd.func38 rfl trivial ?_ rfl
  simp only [Tryd.ntmps38, List.size_toArray, List.length_cons, List.length_nil, Nat.reduceAdd, Nat.reduceSub, Array.replicate_succ, Array.replicate_zero, List.push_toArray, List.append_toArray, List.nil_append, List.cons_append]
  gi_wp2
  go_ret
  exact ⟨rfl, rfl⟩
set_option maxRecDepth 100000 in
set_option maxHeartbeats 1000000 in
theorem peaks_iter (j B : Nat) (own : Nat → Prop) (J Jx : List (Nat × Nat) → World → Prop) (Bp n : Nat) (hn : n ≤ 1099511627776)
    (W : World) (_hB : B = W.heap.size) (hbox : W.cell? ⟨Bp, 0, none⟩ = some (.int .i64 (n : Int))) (hbo : ¬ own Bp)
    (hY : ∀ q x W1, (q ++ [x]) <+: pk 0 n → J q W1 → YieldAt Fence.wide 0 Tryd.prog j (encPk x) W1 fun e W' => (e = .returned (.bool true) ∧ J (q ++ [x]) W' ∧ Keep own W1 W') ∨ (e = .returned (.bool false) ∧ Jx (q ++ [x]) W'))
    (h0 : J [] W) :
    CallsIn Fence.wide 0 Tryd.prog 51 #[.func (.yield j) #[] #[], .pointer (some ⟨Bp, 0, none⟩)] W fun e W' => (∃ v, e = .returned v) ∧ (J (pk 0 n) W' ∨ ∃ q, q <+: pk 0 n ∧ q ≠ [] ∧ Jx q W') := by
  have HY := Lib.hid hY
  have H0 := Lib.hid h0
  have HBo := Lib.hid hbo
  clear hY h0
  refine callsIn_of_wp Tryd.func51 rfl trivial ?_ rfl
  simp only [Tryd.ntmps51, List.size_toArray, List.length_cons, List.length_nil, Nat.reduceAdd, Nat.reduceSub, Array.replicate_succ, Array.replicate_zero, List.push_toArray, List.append_toArray, List.nil_append, List.cons_append]
  gi_wp2
  gi_loopw [3] (fun i wr => ∃ (k : Nat) (pre : List (Nat × Nat)), k ≤ n ∧ i = .int .i64 (k : Int) ∧ pre ++ pk k (n - k) = pk 0 n ∧ J pre wr ∧ wr.cell? ⟨Bp, 0, none⟩ = some (.int .i64 (n : Int))) (fun i _ => n - (intOf i).toNat)
  case atStart => exact ⟨0, [], Nat.zero_le _, rfl, by rw [List.nil_append, Nat.sub_zero], H0.out, hbox⟩
  case round =>
    clear hbox
    obtain ⟨k, pre, hk, rfl, hpre, hJ, hbox⟩ := hrel
    by_cases hlt : k < n
    · have hkn : (k : Int) < (n : Int) := by omega
      have hn1 : (n : Int) ≤ 1099511627776 := by omega
      have hk1 : (k : Int) ≤ 1099511627776 := by omega
      have hst := pk_cons k (r := n - k) (by omega)
      have hgr := greatest_any (n - k) (by omega) (by omega)
      have hle := top2_le (n := n - k) (by omega)
      have hpos := top2_pos (n - k)
      obtain ⟨t, ht⟩ : ∃ t, top2 (n - k) = t := ⟨_, rfl⟩
      rw [ht] at hst hgr hle hpos
      have hsub : (((n - k : Nat)) : Int) = (n : Int) - (k : Int) := by omega
      rw [hsub] at hgr
      have HGR : Hid (∀ W, CallsIn Fence.wide 0 Tryd.prog 52 #[.int .i64 ((n : Int) - (k : Int))] W fun e w' => e = .returned (.int .i64 (t : Int)) ∧ w' = W) := Lib.hid fun W => callsIn_wide.2 (hgr W)
      have hpx : (pre ++ [(k, t)]) <+: pk 0 n := ⟨pk (k + t) (n - k - t), by rw [← hpre, hst, List.append_assoc]; rfl⟩
      have HNX : Hid ((pre ++ [(k, t)]) ++ pk (k + t) (n - (k + t)) = pk 0 n) := Lib.hid (by rw [← hpre, hst, List.append_assoc, show n - (k + t) = n - k - t from by omega]; rfl)
      have hR1 := HY.out pre (k, t) wr hpx hJ
      unfold encPk at hR1
      obtain ⟨fn, tmps, assign, body, hy, hR1⟩ := hR1
      have HBOX := Lib.hid hbox
      have HPX := Lib.hid hpx
      have ht1 : (t : Int) ≤ 1099511627776 := by omega
      clear hgr hst ht hpre hJ hpx
      gi_wp2_with (first
        | (refine ⟨trivial, rfl, ?_⟩; gi_at_call 52; refine (HGR.out _).mono ?_; rintro e W2 ⟨rfl, rfl⟩)
        | (refine ⟨rfl, ?_⟩; refine hR1.mono ?_; clear hR1; rintro e W' (⟨rfl, hJ', hk'⟩ | ⟨rfl, hJx'⟩)))
      · exact ⟨⟨k + t, pre ++ [(k, t)], by omega, by go_num, HNX.out, hJ', cell_keep hk' HBo.out HBOX.out⟩, by simp [intOf]; omega⟩
      · refine bodyPost_ret (results_none rfl _ _ _) rfl ?_
        exact ⟨⟨_, rfl⟩, .inr ⟨_, HPX.out, by simp, hJx'⟩⟩
    · obtain rfl : k = n := by omega
      rw [Nat.sub_self, pk_zero, List.append_nil] at hpre
      subst hpre
      have HJ0 := Lib.hid hJ
      clear hJ
      gi_wp2
      go_end0
      exact ⟨⟨_, rfl⟩, .inl HJ0.out⟩
theorem peaks_seq (own : Nat → Prop) (Bp n : Nat) (hn : n ≤ 1099511627776) (w : World) (hbox : w.cell? ⟨Bp, 0, none⟩ = some (.int .i64 (n : Int))) (hbo : ¬ own Bp) :
    SeqC Tryd.prog 51 #[.pointer (some ⟨Bp, 0, none⟩)] encPk own (pk 0 n) w := by
  intro j J Jx W hW _ _ hY h0
  have hBp : Bp < w.heap.size := block_lt_of_cell hbox
  exact peaks_iter j W.heap.size own J Jx Bp n hn W rfl ((hW.cell (p := ⟨Bp, 0, none⟩) hBp).trans hbox) hbo hY h0
end Go.Proofs.YtphknicdllcbmaaDoor
namespace Go.Proofs.YtphknicdllcbmaaDoor
open Go Go.RowKit Go.Shelf TreeM
attribute [local go_sem] Oper.semAt_some

/-- A range that has just been laid of a row of its own. -/
theorem range_new {W W4 : World} {B n m d : Nat} {A4 : Option Addr} {c4 : Nat} {ts : List D} (ho : W4.ownsRow W.heap.size 30 32 (.slice A4 m c4) ts.length (idCells ts)) (hb : Below W.heap.size W W4) (hp : ts.length = pop n) (hn : n ≤ 1099511627776) (hD : d < W.heap.size) (hB : B ≤ W.heap.size) (o : Obj) :
    ∃ Z, RangeAt ((W4.alloc (.cells #[.int .i64 (n : Int), .slice A4 m c4] 61)).putObj d o) Z W4.heap.size n ts ∧ ∀ i, Z i → B ≤ i := by
  have hz := hb.size
  have ht : Turn (fun i => i = d) W4 ((W4.alloc (.cells #[.int .i64 (n : Int), .slice A4 m c4] 61)).putObj d o) := ((Turn.refl (fun i => i = d) W4).alloc _).putObj (fun _ => rfl) o
  refine ⟨fun i => W.heap.size ≤ i ∧ i < W4.heap.size + 1, ⟨.slice A4 m c4, ?_, own_mono (ht.own ho fun i hi => ?_) (Nat.zero_le _), ⟨hz, by omega⟩, fun i hi => ?_, fun i hi => ?_, hp, hn⟩, fun i hi => by omega⟩
  · exact (World.putObj_heap_other (by omega)).trans (Blk.new W4 61 #[.int .i64 (n : Int), .slice A4 m c4])
  · have := (ho.lt i hi).1
    omega
  · have := ho.lt i hi
    omega
  · have : ((W4.alloc (.cells #[.int .i64 (n : Int), .slice A4 m c4] 61)).putObj d o).heap.size = W4.heap.size + 1 := by simp [World.putObj]
    omega
set_option maxRecDepth 100000 in
set_option maxHeartbeats 1000000 in
theorem restore_any (n : Nat) (hn : n ≤ 1099511627776) (v : Value) (ts : List D) (w : World) (hr : RdI w (fun b => b < w.heap.size) v ts) : CallsIn Fence.wide 0 Tryd.prog 21 #[.int .i64 (n : Int), v] w fun e w' => Below w.heap.size w w' ∧
    if ts.length = pop n then ∃ g Z, e = .returned (.tuple #[.pointer (some ⟨g, 0, none⟩), .int .i64 0]) ∧ RangeAt w' Z g n ts ∧ ∀ i, Z i → w.heap.size ≤ i else e = .returned (.tuple #[.pointer none, .int .i64 60]) := by
  obtain ⟨A, c, rfl, _⟩ := id hr
  obtain ⟨m, hm⟩ : ∃ m, ts.length = m := ⟨_, rfl⟩
  obtain ⟨q, hq⟩ : ∃ q, pop n = q := ⟨_, rfl⟩
  have HQ := Lib.hid hq
  rw [hm, hq]
  have d0 : decide ((n : Int) < 0) = false := decide_eq_false (by omega)
  have d1 : decide (1099511627776 < (n : Int)) = false := decide_eq_false (by omega)
  rw [hm] at hr
  have HR := Lib.hid hr
  have HM := Lib.hid hm
  clear hr hm hq
  refine callsIn_of_wp_marks Tryd.func21 rfl trivial ?_ rfl
  simp only [Tryd.ntmps21, List.size_toArray, List.length_cons, List.length_nil, Nat.reduceAdd, Nat.reduceSub, Array.replicate_succ, Array.replicate_zero, List.push_toArray, List.append_toArray, List.nil_append, List.cons_append]
  gi_wp2_with (refine ⟨trivial, rfl, ?_⟩; gi_at_call 38; refine (peaks_any n _).mono ?_; rintro e W2 ⟨rfl, rfl⟩)
  obtain ⟨W3, hW3⟩ : ∃ W3, (w.alloc (.cells #[.int .i64 0] 3)).alloc (.cells #[.int .i64 (n : Int)] 3) = W3 := ⟨_, rfl⟩
  rw [hW3]
  have h6 : Blk W3 w.heap.size 3 #[.int .i64 0] := by rw [← hW3]; exact (Blk.new w _ _).alloc _
  have h7 : Blk W3 (w.heap.size + 1) 3 #[.int .i64 (n : Int)] := by rw [← hW3]; exact Blk.newAt _ _ (by simp) rfl
  have hb3 : Below w.heap.size w W3 := by rw [← hW3]; exact ((Below.refl _ _).alloc (Nat.le_refl _) _).alloc (by simp) _
  have hz3 : W3.heap.size = w.heap.size + 2 := by rw [← hW3]; simp
  have HZ := Lib.hid hz3
  clear hW3
  refine wpIn_rangeFunc_C (gf := 51) (lb := #[.pointer (some ⟨w.heap.size + 1, 0, none⟩)]) rfl (enters_of Tryd.func51 (by kernel_rfl) rfl)
    (peaks_seq (fun b => b = w.heap.size) (w.heap.size + 1) n hn W3 (h7.cell 0) (by omega)) (fun _ => rfl)
    (fun pre W => Blk W w.heap.size 3 #[.int .i64 (pre.length : Int)] ∧ Below w.heap.size w W)
    (fun _ _ _ => False)
    (fun s A B hs hb => ⟨hs.1.below hb (by omega), hs.2.trans (hb.mono (by omega))⟩)
    (fun _ _ _ _ hs _ => hs)
    ⟨h6, hb3⟩
    (fun x a' W => a' = { tmps := #[.int .i64 (n : Int), .slice A m c, undef, undef, .pointer none, .int .i64 0, .pointer (some ⟨w.heap.size, 0, none⟩), .int .i64 (n : Int), .bool false, .bool false, .int .i64 (n : Int), .bool false, .bool false, .int .i64 (n : Int), .func (.func 51) #[] #[.pointer (some ⟨w.heap.size + 1, 0, none⟩)], .int .i64 (x.1 : Int), .int .i64 (x.2 : Int), undef, undef, undef, undef, undef, undef, undef, undef, undef, undef, undef], defers := [] })
    (fun x a' W l o o' _ h1 h2 h3 => h3) ?assign ?body ?done ?stop
  case assign =>
    intro l pre x W K hlt hpre hi hK
    have HI := Lib.hid hi
    have HKK := Lib.hid hK
    clear hi hK h6 h7 hb3
    unfold encPk
    simp only [List.zip_toArray, List.zip_cons_cons, List.zip_nil_right, List.foldl_toArray, List.foldl_cons, List.foldl_nil, List.setIfInBounds_toArray, List.set_cons_zero, List.set_cons_succ]
    gi_wp2
    exact HKK.out _ _ (keepsFrom_of_below (Below.refl _ _)) (.refl _ _) HI.out rfl
  case body =>
    rintro l pre x a' W hl hlt hpre ⟨hS, hb⟩ rfl
    have hpl : (pre.length : Int) ≤ 1000 := by
      have h1 := ((List.prefix_append pre [x]).trans hpre).length_le
      rw [pk_length] at h1
      have := pop_le 41 n (by omega)
      omega
    have hp0 : (0 : Int) ≤ (pre.length : Int) := by omega
    have k6 := hS.cell 0
    have f6 := hS.frozen 0
    have HS := Lib.hid hS
    have HB := Lib.hid hb
    have HLL := Lib.hid (show (pre ++ [x]).length = pre.length + 1 by simp)
    clear hS hb h6 h7 hb3
    generalize pre.length = q at *
    gi_wp2
    refine ⟨keepsFrom_row HS.out (by simp [World.setCell]) (fun b hb => Below.heap_setCell _ _ _ b hb), Keep.setCell _ _ _ rfl, ?_, HB.out.setCell (by simp) _⟩
    rw [HLL.out]
    exact (HS.out.store 0 (.int .i64 ((q : Int) + 1))).same (by simp)
  case done =>
    rintro D W hD ⟨hS, hb⟩ hK
    rw [pk_length] at hS
    have hpl : pop n ≤ 1000 := by
      have := pop_le 41 n (by omega)
      omega
    rw [HQ.out] at hS hpl
    have k6 := hS.cell 0
    have HB := Lib.hid hb
    have HD := Lib.hid hK
    have HLT := Lib.hid hS.lt
    clear hb hK h6 h7 hb3
    by_cases he : m = q
    · have d6 : ((m : Int) == (q : Int)) = true := by rw [beq_iff_eq, he]
      have HCL : Hid (CallsIn Fence.wide 0 Tryd.prog 37 #[.slice A m c] W fun e w' => ∃ A4 c4, e = .returned (.slice A4 m c4) ∧ w'.ownsRow W.heap.size 30 32 (.slice A4 m c4) ts.length (idCells ts) ∧ Below W.heap.size W w') := Lib.hid (((callsIn_wide (n := 0)).2 (clone_any (.slice A m c) ts W ((HR.out.old HB.out).mono fun b hb => Nat.lt_of_lt_of_le hb HB.out.size))).mono (by
        rintro e w' ⟨v4, rfl, ho, hb⟩
        obtain ⟨A4, c4, rfl, _⟩ := own_len ho
        rw [HM.out] at ho ⊢
        exact ⟨A4, c4, rfl, ho, hb⟩))
      have HNN := Lib.hid (show ts.length = pop n by rw [HM.out, HQ.out, he])
      have d7 : ((m : Int) == (q : Int)) = true := by rw [beq_iff_eq, he]
      have HE := Lib.hid he
      clear he hS
      gi_wp2_with (refine ⟨trivial, rfl, ?_⟩; gi_at_call 37; refine HCL.out.mono ?_; rintro e W4 ⟨A4, c4, rfl, ho4, hb4⟩; have HO4 := Lib.hid ho4; have HB4 := Lib.hid hb4; clear ho4 hb4)
      have hDl : D < W.heap.size := (Array.getElem?_eq_some_iff.1 HD.out).1
      have hD5 : (W4.alloc (.cells #[.int .i64 (n : Int), .slice A4 q c4] 61)).heap[D]? = some (.deferred (some [])) := (Below.heap_alloc _ _ _ (Nat.lt_of_lt_of_le hDl HB4.out.size)).trans ((HB4.out.block D hDl).trans HD.out)
      refine ⟨by simp, .inl ⟨_, _, rfl, run_takeDeferred hD5, ?_⟩⟩
      have hO := HO4.out
      rw [HE.out] at hO
      refine ⟨_, results_tmp2 rfl _ _ _, ?_⟩
      exact ⟨below_putObj ((HB.out.trans (HB4.out.mono HB.out.size)).alloc (Nat.le_trans HB.out.size HB4.out.size) _) _ (by have := HZ.out; omega), _, rfl, range_new hO HB4.out HNN.out hn hDl HB.out.size _⟩
    · have d6 : ((m : Int) == (q : Int)) = false := by rw [beq_eq_false_iff_ne]; omega
      gi_wp2
      refine ⟨by simp, .inl ⟨_, _, rfl, run_takeDeferred HD.out, ?_⟩⟩
      exact ⟨_, results_tmp2 rfl _ _ _, below_putObj HB.out _ (by have := HZ.out; omega), rfl⟩
  case stop =>
    rintro D c pre W _ _ _ h _
    exact h.elim
end Go.Proofs.YtphknicdllcbmaaDoor
