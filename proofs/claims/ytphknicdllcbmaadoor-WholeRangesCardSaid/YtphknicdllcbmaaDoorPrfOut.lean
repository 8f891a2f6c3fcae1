/-
  proof.Inclusion and Consistency: of any list of not more than a million leaves, in whatever memory in which the tables lie. No condition.
-/
import Derived.Test.YtphknicdllcbmaaDoorPrfRoots
namespace Go.Proofs.YtphknicdllcbmaaDoor
open Go Go.RowKit Go.Shelf TreeM

set_option maxRecDepth 100000 in
/-- Inclusion: a place that lies not in it. -/
theorem inclusion_range (v : Value) (l : List D) (a : Int) (w : World) (hr : RdI w (fun b => b < w.heap.size) v l) (h : a < 0 ∨ (l.length : Int) ≤ a) :
    Calls Tryd.prog 26 #[v, .int .i64 a] w fun e w' => e = .returned (.tuple #[.slice none 0 0, .int .i64 1]) ∧ w' = w := by
  obtain ⟨A, c, rfl, _, _⟩ := id hr
  obtain ⟨n, hn⟩ : ∃ n, l.length = n := ⟨_, rfl⟩
  rw [hn] at h ⊢
  clear hr hn
  by_cases h0 : a < 0
  · clear h
    go_enter Tryd.func26, Tryd.ntmps26
    go_wp2
    go_ret2
    exact ⟨rfl, rfl⟩
  · have h1 : (n : Int) ≤ a := h.resolve_left h0
    clear h
    go_enter Tryd.func26, Tryd.ntmps26
    go_wp2
    go_ret2
    exact ⟨rfl, rfl⟩
set_option maxRecDepth 100000 in
set_option maxHeartbeats 1000000 in
theorem inclusion_in (v : Value) (l : List D) (a : Nat) (w : World) (hT : Tables w) (hr : RdI w (fun b => b < w.heap.size) v l) (hl : l.length ≤ 1000000) (ha : a < l.length) :
    Calls Tryd.prog 26 #[v, .int .i64 (a : Int)] w fun e w' => ∃ g N, e = .returned (.tuple #[.slice (some ⟨g, 0, none⟩) N N, .int .i64 0]) ∧ N = (wayP a 0 l.length).length ∧ RdI w' (fun b => w.heap.size ≤ b ∧ b < w'.heap.size) (.slice (some ⟨g, 0, none⟩) N N) ((wayP a 0 l.length).reverse.map (rtP l)) ∧ Below w.heap.size w w' := by
  obtain ⟨A, c, rfl, _, _⟩ := id hr
  obtain ⟨way, hway⟩ : ∃ way, wayP a 0 l.length = way := ⟨_, rfl⟩
  have hlen : way.length ≤ 64 := by
    rw [← hway]
    have := wayP_length 64 a 0 l.length (by omega)
    exact this
  have hmem : ∀ p ∈ way.reverse, p.1 ≤ p.2 ∧ p.2 ≤ l.length := fun p hp => by
    rw [List.mem_reverse, ← hway] at hp
    have := wayP_mem l.length a 0 l.length (by omega) (by omega) p hp
    omega
  have HWY : Hid (Calls Tryd.prog 41 #[.int .i64 (a : Int), .int .i64 (l.length : Int)] w fun e w' => ∃ v, e = .returned v ∧ w'.ownsRow 0 75 2 v way.length (ptCells way.reverse) ∧ Below w.heap.size w w') := Lib.hid ((wayOf_any a l.length ha (by omega) w).mono (by
    rintro e w' ⟨v, h1, h2, h3⟩
    rw [hway] at h2
    exact ⟨v, h1, h2.mono (Nat.zero_le _), h3⟩))
  have HRT : Hid (∀ v2 W, Below w.heap.size w W → W.ownsRow 0 75 2 v2 way.length (ptCells way.reverse) → Calls Tryd.prog 40 #[.slice A l.length c, v2] W fun e w' => ∃ g, e = .returned (.slice (some ⟨g, 0, none⟩) way.length way.length) ∧ w.heap.size ≤ g ∧ g < w'.heap.size ∧ RdI w' (fun b => b = g) (.slice (some ⟨g, 0, none⟩) way.length way.length) (way.reverse.map (rtP l)) ∧ Below w.heap.size w w') := Lib.hid fun v2 W hb ho => (roots_any (.slice A l.length c) v2 l way.reverse W (hT.below hb) ((hr.old hb).mono fun b hb' => Nat.lt_of_lt_of_le hb' hb.size) hl way.length (List.length_reverse ..) hlen ho hmem).mono (by
    rintro e w' ⟨g, h1, h2, h3, h4, h5⟩
    exact ⟨g, h1, Nat.le_trans hb.size h2, h3, h4, hb.trans (h5.mono hb.size)⟩)
  simp only [hway]
  obtain ⟨n, hn⟩ : ∃ n, l.length = n := ⟨_, rfl⟩
  rw [hn] at HWY HRT ha ⊢
  have ha0 : (0 : Int) ≤ (a : Int) := by omega
  have han : (a : Int) < (n : Int) := by omega
  clear hr hT hway hlen hmem hn hl
  go_enter Tryd.func26, Tryd.ntmps26
  go_wp2_with (first
    | (go_at_call 41; refine HWY.out.mono ?_; rintro e W1 ⟨v2, rfl, ho, hb⟩; have HO := Lib.hid ho; have HB := Lib.hid hb; clear ho hb)
    | (go_at_call 40; refine (HRT.out _ _ HB.out HO.out).mono ?_; rintro e W2 ⟨g, rfl, hg1, hg2, hrd, hb2⟩; have HRD := Lib.hid hrd; have HB2 := Lib.hid hb2; clear hrd hb2))
  go_ret2
  have hok : ∀ b, b = g → w.heap.size ≤ b ∧ b < W2.heap.size := fun b hb => by rw [hb]; exact ⟨hg1, hg2⟩
  exact ⟨_, _, rfl, rfl, HRD.out.mono hok, HB2.out⟩
set_option maxRecDepth 100000 in
set_option maxHeartbeats 1000000 in
theorem consistency_in (v : Value) (l : List D) (a : Nat) (w : World) (hT : Tables w) (hr : RdI w (fun b => b < w.heap.size) v l) (hl : l.length ≤ 1000000) (h1 : 1 ≤ a) (ha : a ≤ l.length) :
    Calls Tryd.prog 27 #[v, .int .i64 (a : Int)] w fun e w' => ∃ g N, e = .returned (.tuple #[.slice (some ⟨g, 0, none⟩) N N, .int .i64 0]) ∧ N = (linkP a 0 l.length).length ∧ RdI w' (fun b => w.heap.size ≤ b ∧ b < w'.heap.size) (.slice (some ⟨g, 0, none⟩) N N) ((linkP a 0 l.length).reverse.map (rtP l)) ∧ Below w.heap.size w w' := by
  obtain ⟨A, c, rfl, _, _⟩ := id hr
  obtain ⟨way, hway⟩ : ∃ way, linkP a 0 l.length = way := ⟨_, rfl⟩
  have hlen : way.length ≤ 64 := by
    rw [← hway]
    have := linkP_length 63 a 0 l.length (by omega) (by omega) (by omega)
    exact this
  have hmem : ∀ p ∈ way.reverse, p.1 ≤ p.2 ∧ p.2 ≤ l.length := fun p hp => by
    rw [List.mem_reverse, ← hway] at hp
    have := linkP_mem l.length a 0 l.length (by omega) (by omega) (by omega) p hp
    omega
  have HWY : Hid (Calls Tryd.prog 42 #[.int .i64 (a : Int), .int .i64 (l.length : Int)] w fun e w' => ∃ v, e = .returned v ∧ w'.ownsRow 0 75 2 v way.length (ptCells way.reverse) ∧ Below w.heap.size w w') := Lib.hid ((linkOf_any a l.length h1 ha (by omega) w).mono (by
    rintro e w' ⟨v, h1, h2, h3⟩
    rw [hway] at h2
    exact ⟨v, h1, h2.mono (Nat.zero_le _), h3⟩))
  have HRT : Hid (∀ v2 W, Below w.heap.size w W → W.ownsRow 0 75 2 v2 way.length (ptCells way.reverse) → Calls Tryd.prog 40 #[.slice A l.length c, v2] W fun e w' => ∃ g, e = .returned (.slice (some ⟨g, 0, none⟩) way.length way.length) ∧ w.heap.size ≤ g ∧ g < w'.heap.size ∧ RdI w' (fun b => b = g) (.slice (some ⟨g, 0, none⟩) way.length way.length) (way.reverse.map (rtP l)) ∧ Below w.heap.size w w') := Lib.hid fun v2 W hb ho => (roots_any (.slice A l.length c) v2 l way.reverse W (hT.below hb) ((hr.old hb).mono fun b hb' => Nat.lt_of_lt_of_le hb' hb.size) hl way.length (List.length_reverse ..) hlen ho hmem).mono (by
    rintro e w' ⟨g, h1, h2, h3, h4, h5⟩
    exact ⟨g, h1, Nat.le_trans hb.size h2, h3, h4, hb.trans (h5.mono hb.size)⟩)
  simp only [hway]
  obtain ⟨n, hn⟩ : ∃ n, l.length = n := ⟨_, rfl⟩
  rw [hn] at HWY HRT ha ⊢
  have ha0 : (0 : Int) ≤ (a : Int) := by omega
  have ha1 : (1 : Int) ≤ (a : Int) := by omega
  have han : (a : Int) ≤ (n : Int) := by omega
  clear hr hT hway hlen hmem hn hl
  go_enter Tryd.func27, Tryd.ntmps27
  go_wp2_with (first
    | (go_at_call 42; refine HWY.out.mono ?_; rintro e W1 ⟨v2, rfl, ho, hb⟩; have HO := Lib.hid ho; have HB := Lib.hid hb; clear ho hb)
    | (go_at_call 40; refine (HRT.out _ _ HB.out HO.out).mono ?_; rintro e W2 ⟨g, rfl, hg1, hg2, hrd, hb2⟩; have HRD := Lib.hid hrd; have HB2 := Lib.hid hb2; clear hrd hb2))
  go_ret2
  have hok : ∀ b, b = g → w.heap.size ≤ b ∧ b < W2.heap.size := fun b hb => by rw [hb]; exact ⟨hg1, hg2⟩
  exact ⟨_, _, rfl, rfl, HRD.out.mono hok, HB2.out⟩
end Go.Proofs.YtphknicdllcbmaaDoor
