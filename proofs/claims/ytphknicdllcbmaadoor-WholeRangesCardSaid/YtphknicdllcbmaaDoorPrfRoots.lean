/-
  proof's roots, Inclusion and Consistency: of any list of not more than a million leaves, in whatever memory in which the tables lie. No condition.
-/
import Derived.Test.YtphknicdllcbmaaDoorPrfInc
import Derived.Test.YtphknicdllcbmaaDoorIdRow
import Derived.Test.YtphknicdllcbmaaDoorTreeGo
namespace Go.Proofs.YtphknicdllcbmaaDoor
open Go Go.RowKit Go.Shelf TreeM

theorem wayP_mem : ∀ (j a f t : Nat), t - f ≤ j → f ≤ t → ∀ p ∈ wayP a f t, f ≤ p.1 ∧ p.1 ≤ p.2 ∧ p.2 ≤ t := by
  intro j
  induction j with
  | zero =>
    intro a f t h hft p hp
    rw [wayP_end (by omega)] at hp
    cases hp
  | succ j ih =>
    intro a f t h hft p hp
    by_cases h2 : f + 2 ≤ t
    · rw [wayP_step h2] at hp
      have hr := inP_range (a := a) h2
      have hb := besP_range (a := a) h2
      rcases List.mem_cons.1 hp with rfl | hp
      · omega
      · have := ih a _ _ (by omega) (by omega) p hp
        omega
    · rw [wayP_end h2] at hp
      cases hp
theorem linkP_mem : ∀ (j m f t : Nat), t - f ≤ j → f < m → m ≤ t → ∀ p ∈ linkP m f t, f ≤ p.1 ∧ p.1 ≤ p.2 ∧ p.2 ≤ t := by
  intro j
  induction j with
  | zero =>
    intro m f t h h1 h2 p hp
    omega
  | succ j ih =>
    intro m f t h h1 h2 p hp
    by_cases hm : m < t
    · rw [linkP_step hm (by omega)] at hp
      have hr := inP_range (a := m - 1) (f := f) (t := t) (by omega)
      have hb := besP_range (a := m - 1) (f := f) (t := t) (by omega)
      have hin := inP_has (a := m - 1) (f := f) (t := t) (by omega) (by omega)
      rcases List.mem_cons.1 hp with rfl | hp
      · omega
      · have := ih m _ _ (by omega) (by omega) (by omega) p hp
        omega
    · rw [linkP_end hm] at hp
      split at hp
      · simp only [List.mem_cons, List.not_mem_nil, or_false] at hp
        subst hp
        exact ⟨Nat.le_refl _, by simp only; omega, Nat.le_refl _⟩
      · cases hp
/-- A part's root. -/
def rtP (l : List D) (p : Pt) : D := mth ((l.drop p.1).take (p.2 - p.1))
theorem run_slice_rangeI {P : Program} (t e : TypeId) (ht : P.underlying t = some (.slice e)) (hs : (P.info? e).map (·.size) = some 32) (A : Option Addr) (len cap l h : Nat) (hl : l ≤ h) (hh : h ≤ cap) (w : World) :
    (Instr.sliceAt t (.slice A len cap) (some (.int .i64 (l : Int))) (some (.int .i64 (h : Int))) none).run P w = .ok (.slice (cutI A cap l) (h - l) (cap - l)) w := by
  have := run_slice_partI (P := P) t e ht hs A len cap l (h - l) (by omega) w
  rw [show (l : Int) + ((h - l : Nat) : Int) = (h : Int) from by omega] at this
  exact this
set_option maxRecDepth 100000 in
set_option maxHeartbeats 1000000 in
theorem roots_any (v v2 : Value) (l : List D) (way : List Pt) (w : World) (hT : Tables w) (hr : RdI w (fun b => b < w.heap.size) v l) (hl : l.length ≤ 1000000) (N : Nat) (hN : way.length = N) (hN64 : N ≤ 64)
    (ho : w.ownsRow 0 75 2 v2 N (ptCells way)) (hp : ∀ p ∈ way, p.1 ≤ p.2 ∧ p.2 ≤ l.length) :
    Calls Tryd.prog 40 #[v, v2] w fun e w' => ∃ g, e = .returned (.slice (some ⟨g, 0, none⟩) N N) ∧ w.heap.size ≤ g ∧ g < w'.heap.size ∧ RdI w' (fun b => b = g) (.slice (some ⟨g, 0, none⟩) N N) (way.map (rtP l)) ∧ Below w.heap.size w w' := by
  obtain ⟨A, c, rfl, hlc, _⟩ := id hr
  obtain ⟨Aw, cw, rfl, _⟩ := own_len ho
  obtain ⟨n, hn⟩ : ∃ n, l.length = n := ⟨_, rfl⟩
  rw [hn] at hr hl hlc hp ⊢
  have hmk := fun w' => run_mk_ids N (by omega) w'
  have HR := Lib.hid hr
  have HT := Lib.hid hT
  have HO := Lib.hid ho
  have HP := Lib.hid hp
  have HLC := Lib.hid hlc
  have HNW := Lib.hid hN
  have H0 := Lib.hid (idRow_new w N)
  have HB0 := Lib.hid ((Below.refl w.heap.size w).alloc (Nat.le_refl _) (.cells (arr (32 * N) fun _ => bv 0) 30))
  clear hr hT ho hp hn hlc
  go_enter Tryd.func40, Tryd.ntmps40
  go_wp2
  clear hmk
  go_loopw [13] (fun i wr => ∃ k : Nat, k ≤ N ∧ i = .int .i64 (k : Int) ∧ IdRow wr w.heap.size N ((way.map (rtP l)).take k) ∧ Below w.heap.size w wr) (fun i _ => N - (intOf i).toNat)
  case atStart => exact ⟨0, Nat.zero_le _, rfl, H0.out, HB0.out⟩
  case round =>
    obtain ⟨k, hk, rfl, hrow, hb⟩ := hrel
    by_cases hlt : k < N
    · have hkn : (k : Int) < (N : Int) := by omega
      have hk0 : (0 : Int) ≤ (k : Int) := by omega
      have hk64 : (k : Int) ≤ 64 := by omega
      have hrp := rdPt_own (Turn.own (Turn.of_below hb) HO.out (fun i hi => by have := (HO.out.lt i hi).2; omega))
      obtain ⟨Gw, rfl⟩ := hrp.addr (by omega)
      have hlw := load_rd hrp hlt
      have hpe : way.getD k (0, 0) = way[k]'(by omega) := by
        rw [List.getD_eq_getElem?_getD, List.getElem?_eq_getElem (by omega)]; rfl
      obtain ⟨p, hpp⟩ : ∃ p, way.getD k (0, 0) = p := ⟨_, rfl⟩
      have hpm : p ∈ way := by rw [← hpp, hpe]; exact List.getElem_mem _
      obtain ⟨hp1, hp2⟩ := HP.out p hpm
      rw [hpp] at hlw
      have hsn : (way.map (rtP l)).take (k + 1) = (way.map (rtP l)).take k ++ [rtP l p] := by
        rw [List.take_add_one, List.getElem?_map, List.getElem?_eq_getElem (by omega), ← hpe, hpp]
        rfl
      have hlen : ((way.map (rtP l)).take k).length = k := by rw [List.length_take, List.length_map, HNW.out]; omega
      obtain ⟨f, hf⟩ : ∃ f, rtP l p = f := ⟨_, rfl⟩
      have HTR : Hid (∀ W, Below w.heap.size w W → Calls Tryd.prog 20 #[.slice (cutI A c p.1) (p.2 - p.1) (c - p.1)] W fun e w' => e = .returned (.agg (arr 32 fun i => bv (f i))) ∧ Below W.heap.size W w') := Lib.hid fun W hb' => by
        have := troot_any _ ((l.drop p.1).take (p.2 - p.1)) W (HT.out.below hb') (((HR.out.part (k := p.1) (m := p.2 - p.1) (by omega)).old hb').mono fun b hb'' => Nat.lt_of_lt_of_le hb'' hb'.size) (by simp; omega)
        rw [← hf]
        exact this
      rw [hf] at hsn
      have sl := run_slice_rangeI (P := Tryd.prog) 22 30 Tryd.underlying22 (by kernel_rfl) A n c p.1 p.2 hp1 (by have := HLC.out; omega)
      obtain ⟨d1, hd1⟩ : ∃ d, p.2 - p.1 = d := ⟨_, rfl⟩
      obtain ⟨d2, hd2⟩ : ∃ d, c - p.1 = d := ⟨_, rfl⟩
      obtain ⟨A2, hA2⟩ : ∃ A2, cutI A c p.1 = A2 := ⟨_, rfl⟩
      rw [hd1, hd2, hA2] at HTR sl
      have hone := ptc_one p
      have HLW := Lib.hid hlw
      have HSN := Lib.hid hsn
      have HLEN := Lib.hid hlen
      have HRO := Lib.hid hrow
      have HB := Lib.hid hb
      clear hrp hlw hpe hpp hpm hsn hlen hf hd1 hd2 hA2 hrow hb hp1 hp2
      go_wp2_with (first
        | (guard_target = wpList _ _ _ (Oper.mk _ (.load 75 _) _ _ _ _ :: _) _ _; refine wpList_load_run rfl 75 _ rfl _ (.agg (ptc p)) rfl HLW.out ?_)
        | (refine wpList_store_arrW rfl 75 _ _ rfl wr.heap.size (ptc p) rfl rfl 75 _ (Blk.new wr _ _) (size_ptc _) rfl hone ?_; intro W3 hS3 hz3 hb3 hk3; have q13 : Below wr.heap.size wr W3 := ((Below.refl _ wr).alloc (Nat.le_refl _) _).trans hb3; have c30 : W3.cell? ⟨wr.heap.size, 0, none⟩ = some (.int .i64 (p.1 : Int)) := hS3.cell 0; have c31 : W3.cell? ⟨wr.heap.size, 1, none⟩ = some (.int .i64 (p.2 : Int)) := hS3.cell 1; have HRO3 := Lib.hid (HRO.out.below q13); have HB3 := Lib.hid (HB.out.trans (q13.mono HB.out.size)); clear hS3 hz3 hb3 hk3 q13)
        | (go_at_call 20; refine (HTR.out _ HB3.out).mono ?_; rintro e W4 ⟨rfl, hb4⟩; have HRO4 := Lib.hid (HRO3.out.below hb4); have HB4 := Lib.hid (HB3.out.trans (hb4.mono HB3.out.size)); clear hb4 c30 c31)
        | (refine wpList_store_id rfl 30 _ _ rfl w.heap.size N k _ _ f rfl (by first | rfl | omega) rfl HRO4.out HLEN.out hlt (by kernel_rfl) ?_; intro W5 hO5 hz5 hb5 _; rw [← HSN.out] at hO5; have HO5 := Lib.hid hO5; have HB5 := Lib.hid (HB4.out.trans hb5); clear hO5 hz5 hb5))
      go_roundw
      case rel => exact ⟨k + 1, by omega, by go_num, HO5.out, HB5.out⟩
      case measure => simp [intOf]; omega
    · obtain rfl : k = N := by omega
      rw [List.take_of_length_le (by rw [List.length_map, HNW.out]; exact Nat.le_refl _)] at hrow
      have HRO := Lib.hid hrow
      have HB := Lib.hid hb
      clear hrow hb
      go_wp2
      go_ret
      exact ⟨_, rfl, Nat.le_refl _, Blk.lt HRO.out, idRow_rd HRO.out (by rw [List.length_map, HNW.out]) (by omega), HB.out⟩
end Go.Proofs.YtphknicdllcbmaaDoor
