/-
  SumStands, the walk: for every parts.
-/
import Derived.Test.YtghjdelijmlemaaDoorRefOf
import Derived.Test.YtghjdelijmlemaaDoorLawKnown
import Derived.Test.YtghjdelijmlemaaDoorFor
namespace Go.Proofs.YtghjdelijmlemaaDoor
open Go Go.RowKit Go.Shelf

/-- The parts that are taken, cut. -/
def cutTo (most long : Nat) (ps : List (List UInt8)) (k : Nat) : List (List UInt8) := (ps.take (min k most)).map (List.take long)
theorem cutTo_zero (most long : Nat) (ps : List (List UInt8)) : cutTo most long ps 0 = [] := by simp [cutTo]
theorem cutTo_snoc (most long : Nat) (ps : List (List UInt8)) (k : Nat) (h : k < ps.length) (h2 : k < most) : cutTo most long ps (k + 1) = cutTo most long ps k ++ [(ps.getD k []).take long] := by
  unfold cutTo
  rw [show min (k + 1) most = k + 1 from by omega, show min k most = k from by omega, List.take_succ_eq_append_getElem h, List.getD_eq_getElem?_getD, List.getElem?_eq_getElem h, List.map_append]
  rfl
theorem cutTo_more (most long : Nat) (ps : List (List UInt8)) (k : Nat) (h2 : most ≤ k) : cutTo most long ps (k + 1) = cutTo most long ps k := by
  unfold cutTo
  rw [show min (k + 1) most = most from by omega, show min k most = most from by omega]
theorem cutTo_length (most long : Nat) (ps : List (List UInt8)) (k : Nat) : (cutTo most long ps k).length ≤ most := by
  unfold cutTo
  rw [List.length_map, List.length_take]
  omega
theorem flatten_len_le (qs : List (List UInt8)) (n m : Nat) (hn : qs.length ≤ n) (h : ∀ q ∈ qs, q.length ≤ m) : qs.flatten.length ≤ n * m := by
  induction qs generalizing n with
  | nil => simp
  | cons q qs ih =>
    rw [List.length_cons] at hn
    have h1 := ih (n - 1) (by omega) (fun r hr => h r (List.mem_cons_of_mem _ hr))
    have h2 := h q (List.mem_cons_self ..)
    rw [List.flatten_cons, List.length_append]
    have : (n - 1) * m + m = n * m := by
      obtain ⟨k, rfl⟩ : ∃ k, n = k + 1 := ⟨n - 1, by omega⟩
      rw [Nat.add_sub_cancel, Nat.succ_mul]
    omega
theorem cutTo_flat (most long : Nat) (ps : List (List UInt8)) (k : Nat) : (cutTo most long ps k).flatten.length ≤ most * long :=
  flatten_len_le _ _ _ (cutTo_length most long ps k) fun q hq => by
    unfold cutTo at hq
    simp only [List.mem_map] at hq
    obtain ⟨r, _, rfl⟩ := hq
    rw [List.length_take]
    omega

/-- Slices of what was handed in, that read as parts. -/
def Cut (B : Nat) (W : World) (xs : List Value) (qs : List (List UInt8)) : Prop :=
  xs.length = qs.length ∧ ∀ i, i < qs.length → RdB W (fun b => b < B) (xs.getD i undef) (qs.getD i [])
theorem Cut.below {B : Nat} {W W' : World} {xs : List Value} {qs : List (List UInt8)} (h : Cut B W xs qs) (hb : Below B W W') : Cut B W' xs qs :=
  ⟨h.1, fun i hi => (h.2 i hi).kept fun a x ha hx => (hb.cell (p := a) ha).trans hx⟩
theorem Cut.snoc {B : Nat} {W : World} {xs : List Value} {qs : List (List UInt8)} (h : Cut B W xs qs) {v : Value} {q : List UInt8} (hv : RdB W (fun b => b < B) v q) : Cut B W (xs ++ [v]) (qs ++ [q]) := by
  refine ⟨by simp [h.1], fun i hi => ?_⟩
  rw [List.length_append] at hi
  by_cases hl : i < qs.length
  · rw [List.getD_eq_getElem?_getD, List.getD_eq_getElem?_getD, List.getElem?_append_left (by rw [h.1]; exact hl), List.getElem?_append_left hl, ← List.getD_eq_getElem?_getD, ← List.getD_eq_getElem?_getD]
    exact h.2 i hl
  · have hi2 : i = qs.length := by simp at hi; omega
    subst hi2
    rw [List.getD_eq_getElem?_getD, List.getD_eq_getElem?_getD, List.getElem?_append_right (by rw [h.1]; omega), List.getElem?_append_right (by omega), h.1]
    simpa using hv
theorem rdP_of_cut {B : Nat} {W : World} {base n e : Nat} {A : Option Addr} {c : Nat} {xs : List Value} {qs : List (List UInt8)} (ho : W.ownsRow base e 1 (.slice A n c) n xs) (h : Cut B W xs qs) (hB : B ≤ W.heap.size) : RdP W (fun b => b < W.heap.size) A qs := fun k hk => by
  have hx : k < xs.length := by rw [h.1]; exact hk
  rcases ho.2 with ⟨_, h0⟩ | ⟨g, cap, cur, hv, hb, hg, hcap, _⟩
  · have := ho.1
    omega
  · injection hv with e1 e2 e3
    subst e1
    refine ⟨_, xs.getD k undef, rfl, (ho.lt g rfl).2, ho.cells (g := g) rfl k _ ?_, (h.2 k hk).mono fun b hb => Nat.lt_of_lt_of_le hb hB⟩
    rw [List.getElem?_eq_getElem hx, List.getD_eq_getElem?_getD, List.getElem?_eq_getElem hx]
    rfl
/-- The first bytes of a slice. -/
theorem RdB.firsts {W : World} {ok : Nat → Prop} {A : Option Addr} {n c m : Nat} {L : List UInt8} (h : RdB W ok (.slice A n c) L) (hm : m ≤ n) : RdB W ok (.slice A m c) (L.take m) := by
  obtain ⟨A', c', e, h1, h2, h3⟩ := h
  injection e with e1 e2 e3
  subst e1; subst e2; subst e3
  refine ⟨A, c, by rw [List.length_take, Nat.min_eq_left hm], by rw [List.length_take]; omega, by rw [List.length_take]; omega, fun h => ?_⟩
  rw [List.length_take] at h
  obtain ⟨ad, e1, e2, e4⟩ := h3 (by omega)
  refine ⟨ad, e1, e2, fun j hj => ?_⟩
  rw [List.length_take] at hj
  rw [e4 j (by omega)]
  simp [List.getD_eq_getElem?_getD, List.getElem?_take, show j < m from by omega]
theorem one_slice (A : Option Addr) (a b : Nat) : ∀ u ∈ [Value.slice A a b], u.oneCell' = true := fun u hu => by
  simp at hu
  subst hu
  rfl

set_option maxRecDepth 100000 in
set_option maxHeartbeats 1000000 in
theorem stands_any (A : Option Addr) (c : Nat) (ps : List (List UInt8)) (n : Nat) (hn : ps.length = n) (hnm : n ≤ 140737488351232) (w : World) (hT : Tables w) (hr : RdP w (fun b => b < w.heap.size) A ps) :
    Calls Tryd.prog 3 #[.slice A n c] w fun e w' => e = .returned (.bool true) ∧ Below w.heap.size w w' := by
  have HT := Lib.hid hT
  have HR := Lib.hid hr
  have HN := Lib.hid hn
  clear hT hr hn
  obtain ⟨i0, hi, hz0, hz1, hz2⟩ := info_parts info_bytes
  have HI := Lib.hid (And.intro hi (And.intro hz0 (And.intro hz1 hz2)))
  clear hi hz0 hz1 hz2
  go_enter Tryd.func3, Tryd.ntmps3
  go_wp2_with (go_at_call 9; refine (callsIn_wide.1 (known_any w HT.out)).mono ?_; rintro e w1 ⟨rfl, hb1⟩)
  go_loopw [3, 4, 11] (fun v s i wr => ∃ k : Nat, k ≤ n ∧ i = .int .i64 (k : Int) ∧ s = .string ⟨(cutTo 8 200 ps k).flatten.toArray⟩ ∧ (∃ xs, wr.ownsRow w.heap.size 24 1 v (cutTo 8 200 ps k).length xs ∧ Cut w.heap.size wr xs (cutTo 8 200 ps k)) ∧ Below w.heap.size w wr) (fun _ _ i _ => n - (intOf i).toNat)
  case atStart => exact ⟨0, by omega, rfl, by rw [cutTo_zero]; rfl, ⟨[], by rw [cutTo_zero]; exact World.ownsRow_nil _ _ _ _, by rw [cutTo_zero]; exact ⟨rfl, fun i hi => by simp at hi⟩⟩, hb1⟩
  case round =>
    clear hb1
    obtain ⟨k, hk, rfl, rfl, ⟨xs, hown, hC⟩, hb⟩ := hrel
    by_cases hlt : k < n
    · obtain ⟨ad, v, rfl, hok, hcell, hread⟩ := (HR.out.kept (W' := wr) fun a x ha h => (hb.cell (p := a) ha).trans h) k (by rw [HN.out]; exact hlt)
      have hkn : (k : Int) < (n : Int) := by omega
      by_cases h8 : k < 8
      · have hst := Lib.hid (cutTo_snoc 8 200 ps k (by rw [HN.out]; exact hlt) h8)
        have hfl := cutTo_flat 8 200 ps k
        have hln := cutTo_length 8 200 ps k
        obtain ⟨qs, hqs⟩ : ∃ qs, cutTo 8 200 ps k = qs := ⟨_, rfl⟩
        rw [hqs] at hst hown hC hfl hln ⊢
        clear hqs
        obtain ⟨q, hq⟩ : ∃ q, ps.getD k [] = q := ⟨_, rfl⟩
        rw [hq] at hst hread
        obtain ⟨A0, c0, rfl, hc0, hn0, hcs0⟩ := hread
        have hread : RdB wr (fun b => b < w.heap.size) (.slice A0 q.length c0) q := ⟨A0, c0, rfl, hc0, hn0, hcs0⟩
        obtain ⟨l, hl⟩ : ∃ l, q.length = l := ⟨_, rfl⟩
        rw [hl] at hc0 hn0 hcell hread
        obtain ⟨m, hm⟩ : ∃ m, min l 200 = m := ⟨_, rfl⟩
        have hmi : min (l : Int) 200 = (m : Int) := by omega
        have hmc : m ≤ c0 := by omega
        have hm2 : m ≤ 200 := by omega
        have hr2 := hread.firsts (m := m) (by omega)
        have hqm : q.take 200 = q.take m := by
          by_cases h : l ≤ 200
          · rw [List.take_of_length_le (by omega), List.take_of_length_le (by omega)]
          · rw [show m = 200 from by omega]
        rw [hqm] at hst
        obtain ⟨t, ht⟩ : ∃ t, q.take m = t := ⟨_, rfl⟩
        have htl : t.length = m := by rw [← ht, List.length_take]; omega
        rw [ht] at hst hr2
        have hto := fun w' => run_slice_to (P := Tryd.prog) 24 5 Tryd.underlying24 (by kernel_rfl) A0 l c0 m hmc w'
        have hcat : (({ data := qs.flatten.toArray } : ByteArray) ++ { data := t.toArray }) = ⟨(qs.flatten ++ t).toArray⟩ := ba_app _ _
        have hno : ¬ (9223372036854775807 < qs.flatten.length + t.length) := by omega
        have HO := Lib.hid hown
        have HC := Lib.hid hC
        have HBB := Lib.hid hb
        have HRR := Lib.hid hr2
        have HTL := Lib.hid htl
        have h8' : (k : Int) < 8 := by omega
        obtain ⟨F, hF⟩ : ∃ F, qs.flatten = F := ⟨_, rfl⟩
        have HF := Lib.hid hF
        rw [hF] at hcat hno ⊢
        obtain ⟨z, hz⟩ : ∃ z, qs.length = z := ⟨_, rfl⟩
        rw [hz] at hln HO
        have HZ := Lib.hid hz
        clear hcs0 hown hC hb hr2 hread hq hl hm hqm ht htl hok hfl hF hz
        go_wp2_with (first
          | (at_builtin; refine wpList_append_lies _ rfl (.tmp 23) (.tmp 25) 22 rfl w.heap.size 24 i0 (.slice none 0 0) 1 24 Tryd.underlying22 HI.out.1 HI.out.2.1 HI.out.2.2.1 HI.out.2.2.2 rfl (by omega) u3 z xs rfl (HO.out.alloc _) ⟨wr.heap.size, 0, none⟩ 1 1 [.slice A0 m c0] rfl rfl (news_blk (Blk.new _ _ _)) (one_slice _ _ _) (by omega) (by unfold maxLen; omega) (by omega) (by have := HBB.out.size; simp; omega) (wr.heap.size + 1) (by simp) ?_; intro g2 cap2 w4 hown4 hgr4 hat4 hlt4; have hbw : Below w.heap.size wr w4 := ((Below.refl _ _).alloc HBB.out.size _).grown hgr4 (by have := HBB.out.size; simp; omega) (fun x hx => (HO.out.lt x hx).1); have hcv := str_rd (HRR.out.kept fun a x ha h => (hbw.cell (p := a) ha).trans h)))
        have hC4 : Hid (Cut w.heap.size w4 (xs ++ [.slice A0 m c0]) (qs ++ [t])) := Lib.hid ((HC.out.below hbw).snoc (HRR.out.kept fun a x ha h => (hbw.cell (p := a) ha).trans h))
        have hF2 : Hid ((qs ++ [t]).flatten = F ++ t) := Lib.hid (by rw [List.flatten_append, HF.out]; simp)
        have hl2 : Hid ((qs ++ [t]).length = z + 1) := Lib.hid (by rw [List.length_append, HZ.out]; rfl)
        have HO4 := Lib.hid hown4
        have hb4 : Hid (Below w.heap.size w w4) := Lib.hid (HBB.out.trans hbw)
        clear hown4 hgr4 hat4 hlt4 hcv hcat hno hbw
        go_roundw
        case rel => exact ⟨k + 1, by omega, by go_num, by rw [hst.out, hF2.out], ⟨_, by rw [hst.out, hl2.out]; exact HO4.out, by rw [hst.out]; exact hC4.out⟩, hb4.out⟩
        case measure => simp [intOf]; omega
      · have hst := Lib.hid (cutTo_more 8 200 ps k (by omega))
        have h8' : decide ((k : Int) < 8) = false := by simp; omega
        have HO := Lib.hid hown
        have HC := Lib.hid hC
        have HBB := Lib.hid hb
        have HRD := Lib.hid hread
        obtain ⟨A0, c0, rfl, hc0, hn0, hcs0⟩ := hread
        obtain ⟨F, hF⟩ : ∃ F, (cutTo 8 200 ps k).flatten = F := ⟨_, rfl⟩
        have HF := Lib.hid hF
        rw [hF]
        clear hown hC hb hcs0 hok hF
        go_wp2
        go_roundw
        case rel => exact ⟨k + 1, by omega, by go_num, by rw [hst.out, HF.out], ⟨xs, by rw [hst.out]; exact HO.out, by rw [hst.out]; exact HC.out⟩, HBB.out⟩
        case measure => simp [intOf]; omega
    · obtain rfl : k = n := by omega
      obtain ⟨A1, c1, rfl⟩ : ∃ A1 c1, u3 = .slice A1 (cutTo 8 200 ps k).length c1 := by
        rcases hown.2 with ⟨h1, h2⟩ | ⟨g, cap, _, h1, _⟩
        · exact ⟨none, 0, by rw [h1, h2]⟩
        · exact ⟨_, cap, h1⟩
      have hrp := rdP_of_cut hown hC hb.size
      have hfl := cutTo_flat 8 200 ps k
      have hln := cutTo_length 8 200 ps k
      have hT2 := HT.out.below hb
      have hsz := hb.size
      obtain ⟨qs, hqs⟩ : ∃ qs, cutTo 8 200 ps k = qs := ⟨_, rfl⟩
      rw [hqs] at hrp hfl hln ⊢
      obtain ⟨cs, e1, hlen, hone, hinfo, e2⟩ := sum_cells qs.flatten
      have HOF := Lib.hid (callsIn_wide.1 (of_any A1 c1 qs (by omega) (by omega) wr hT2 hrp))
      have HRO := Lib.hid (fun W => refOf_any qs.flatten (by omega) W)
      have heq := eql_sha qs.flatten qs.flatten rfl
      rw [e1] at HOF HRO heq
      have HBB := Lib.hid hb
      have hkk : ¬ ((k : Int) < (k : Int)) := by omega
      obtain ⟨z, hz⟩ : ∃ z, qs.length = z := ⟨_, rfl⟩
      rw [hz] at HOF ⊢
      clear hown hC hb hrp hT2 hqs hfl hln e1 e2 hlen hone hinfo hz
      go_wp2_with (first
        | (go_at_call 10; refine HOF.out.mono ?_; rintro e w3 ⟨rfl, hb3⟩)
        | (go_at_call 11; refine (HRO.out _).mono ?_; rintro e w4 ⟨rfl, hb4⟩))
      go_ret
      exact ⟨rfl, (HBB.out.trans (hb3.mono hsz)).trans (hb4.mono (Nat.le_trans hsz hb3.size))⟩
end Go.Proofs.YtghjdelijmlemaaDoor
