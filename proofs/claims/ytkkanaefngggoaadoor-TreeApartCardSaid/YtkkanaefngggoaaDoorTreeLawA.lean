/-
  TreeApart: for every list of leaves and every two more, in whatever memory in which the tables lie. No condition.
-/
import Derived.Test.YtkkanaefngggoaaDoorTreeLawE
import Derived.Test.YtkkanaefngggoaaDoorRegT
import Derived.Test.YtkkanaefngggoaaDoorRefSumT
import Derived.Deep.CutRange
namespace Go.Proofs.YtkkanaefngggoaaDoor
open Go Go.RowKit Go.Shelf TreeM

section
variable {P : Program}
/-- The way on from a set of operations that are done, laid once. -/
theorem with_key {ops : Array Oper} {Q : Exit → Act → World → Prop} {md : Region.Mode} {S : World → Prop} {fuel : Nat} {listed : Array Bool} {a : Act} {w : World} (fuel' : Nat) (listed' : Array Bool) (T : Act → World → Prop)
    (hkey : ∀ a w, T a w → wpAnyH P md ops Q S fuel' listed' a w) (hmain : (∀ a w l, l = listed' → T a w → wpAnyH P md ops Q S fuel' l a w) → wpAnyH P md ops Q S fuel listed a w) : wpAnyH P md ops Q S fuel listed a w :=
  hmain fun a w l hl ht => by subst hl; exact hkey a w ht
end
/-- An append of a slice of IDs, of whatever address. -/
theorem app_idsO {B : Nat} {w : World} (hB : B ≤ w.heap.size) {v : Value} {n : Nat} {xs : List Value} (hown : w.ownsRow B 30 32 v n xs) {ok : Nat → Prop} {A : Option Addr} {m c : Nat} {l : List D} (hr : RdI w ok (.slice A m c) l) (hn : n + m ≤ 4398046511104) :
    ∃ v' w', (Builtin.append_ #[22, 22] 22 #[v, .slice A m c]).run Tryd.prog w = .ok v' w' ∧
      w'.ownsRow B 30 32 v' (n + m) (xs ++ idCells l) ∧ w.grownBy w' v.ownBlock ∧ (v'.ownBlock = v.ownBlock ∨ v'.ownBlock = some w.heap.size) := by
  rcases A with _ | ad
  · have hm : l.length = 0 := by
      rcases Nat.eq_zero_or_pos l.length with h0 | h0
      · exact h0
      · obtain ⟨ad, h, _⟩ := hr.at_ (k := 0) (by rw [hr.len]; exact h0)
        cases h
    have hl := List.eq_nil_of_length_eq_zero hm
    have hmm : m = 0 := by rw [hr.len, hm]
    subst hl hmm
    obtain ⟨i0, hi, hz0, hz1, hz2⟩ := info_parts info_id
    refine ⟨v, w, ?_, by simpa [idCells] using hown, World.grownBy.refl w _, .inl rfl⟩
    have ht := Tryd.underlying22
    rcases hown.2 with ⟨rfl, rfl⟩ | ⟨g, cap, cur, rfl, _, _, hnc, _⟩
    · simp [Builtin.append_, run_underlying ht, sizeOf, typeInfo, hi, Builtin.lenOf, Builtin.firstCells]
    · simp [Builtin.append_, run_underlying ht, sizeOf, typeInfo, hi, Builtin.lenOf, Builtin.firstCells, hnc, storeCells]
  · exact app_ids hB hown hr hn
/-- A row of bytes' cells that may be written. -/
def RowU (w : World) (A : Option Addr) (n : Nat) : Prop := ∀ k, k < n → ∃ g, A = some ⟨g, 0, none⟩ ∧ ∃ x : UInt8, w.cell? ⟨g, k * 32, none⟩ = some (bv x) ∧ w.frozen? ⟨g, k * 32, none⟩ = false
theorem rowU_own {w : World} {B n c : Nat} {A : Option Addr} {L : List D} (h : w.ownsRow B 30 32 (.slice A n c) n (idCells L)) (hL : L.length = n) : RowU w A n := fun k hk => by
  obtain ⟨g, rfl⟩ := own_addrN h (by omega)
  refine ⟨g, rfl, L.getD k dz 0, ?_, ?_⟩
  · rw [h.cellAt (k * 32) (by omega)]
    have := idCells_at L k 0 (by omega) (by omega)
    rw [Nat.add_zero, Nat.mul_comm] at this
    exact this
  · rcases h.2 with ⟨hv, h0⟩ | ⟨g', cap, cur, hv, h1, h2, _⟩
    · omega
    · injection hv with e1 e2 e3
      injection e1 with e1
      injection e1 with e1
      subst e1
      exact Blk.frozen h2 _
theorem bv_inc (x : UInt8) : bv (x + 1) = .int .u8 (((x.toNat : Int) + 1) % 256) := by
  have h2 : (x + 1 : UInt8).toNat = (x.toNat + 1) % 256 := by simp [UInt8.toNat_add]
  unfold bv
  rw [h2]
  simp
theorem rowU_store {w : World} {A : Option Addr} {n : Nat} (h : RowU w A n) (p : Addr) (x : UInt8) : RowU (w.setCell p (bv x)) A n := fun k hk => by
  obtain ⟨g, hA, y, hc, hf⟩ := h k hk
  refine ⟨g, hA, ?_⟩
  by_cases e : p = ⟨g, k * 32, none⟩
  · subst e
    exact ⟨x, World.cell?_setCell_same w _ _ hc, by rw [World.frozen?_setCell]; exact hf⟩
  · exact ⟨y, (World.cell?_setCell_other w p _ _ e).trans hc, by rw [World.frozen?_setCell]; exact hf⟩
theorem own_empty {w Wa : World} {B : Nat} (h : Wa.heap[w.heap.size]? = some (.cells #[] 30)) (hB : B ≤ w.heap.size) : Wa.ownsRow B 30 32 (.slice (some ⟨w.heap.size, 0, none⟩) 0 0) 0 [] :=
  ⟨rfl, .inr ⟨w.heap.size, 0, #[], rfl, hB, h, Nat.le_refl _, by unfold maxLen; omega, rfl, rfl⟩⟩
theorem ne_new {i K n c : Nat} (h : K < i) : ∀ j, (Value.slice (some ⟨i, 0, none⟩) n c).ownBlock = some j → j ≠ K := fun j hj => by
  simp only [Value.ownBlock, Option.some.injEq] at hj
  omega
theorem ne_old {w : World} {B n k : Nat} {e : TypeId} {v : Value} {xs : List Value} (h : w.ownsRow B e k v n xs) : ∀ j, v.ownBlock = some j → j ≠ w.heap.size := fun j hj => by
  have := (h.lt j hj).2
  omega
theorem ne_app {w : World} {v v' : Value} {K : Nat} (h : ∀ j, v.ownBlock = some j → j ≠ K) (hv : v'.ownBlock = v.ownBlock ∨ v'.ownBlock = some w.heap.size) (hK : K < w.heap.size) : ∀ j, v'.ownBlock = some j → j ≠ K := fun j hj => by
  rcases hv with e | e
  · exact h j (e ▸ hj)
  · rw [e] at hj
    cases hj
    omega
theorem grown_below {W8 w w' : World} {row : Option Nat} (hb : Below W8.heap.size W8 w) (hg : w.grownBy w' row) (hr : ∀ i, row = some i → W8.heap.size ≤ i) : Below W8.heap.size W8 w' := by
  have t : Turn (fun i => W8.heap.size ≤ i) W8 w' := ((Turn.of_below hb).grown hg (fun i hi _ => hr i hi))
  exact t.below (Nat.le_refl _) (fun i hi => by omega)
theorem app_one {B : Nat} {w : World} (hB : B ≤ w.heap.size) {v : Value} {n : Nat} {xs : List Value} (hown : w.ownsRow B 30 32 v n xs) (f : D) {g0 : Nat} (hg0 : w.heap[g0]? = some (.cells (arr 32 fun i => bv (f i)) 30 (0, 0))) (hn : n ≤ 100000000) :
    ∃ v' w', (Builtin.append_ #[22, 22] 22 #[v, .slice (some ⟨g0, 0, none⟩) 1 1]).run Tryd.prog w = .ok v' w' ∧
      w'.ownsRow B 30 32 v' (n + 1) (xs ++ idc f) ∧ w.grownBy w' v.ownBlock := by
  obtain ⟨g, cap, w', h1, h2, h3, _⟩ := app_id hB hown f hg0 hn
  exact ⟨_, w', h1, h2, h3⟩
theorem rd_snoc {w : World} {B q n : Nat} {v : Value} {l1 : List D} {f : D} (ho : w.ownsRow B 30 32 v (n + 1) ([] ++ idCells l1 ++ idc f)) (hl : l1.length = q) (hq : q ≤ 60) : RdI w (fun b => b < w.heap.size) v (l1 ++ [f]) := by
  have e : [] ++ idCells l1 ++ idc f = idCells (l1 ++ [f]) := by rw [List.nil_append, idCells_append, idCells_one]
  rw [e] at ho
  have hn : n + 1 = (l1 ++ [f]).length := by
    have := ho.1
    rw [idCells_length] at this
    omega
  exact (own_rd ho (by rw [hn, List.length_append, hl]; simp; omega)).mono fun b hb => hb.2.2
set_option maxRecDepth 100000 in
set_option maxHeartbeats 1000000 in
theorem apart_law (v : Value) (l : List D) (fx fy : D) (w : World) (hT : Tables w) (hr : RdI w (fun b => b < w.heap.size) v l) :
    Calls Tryd.prog 9 #[v, .agg (arr 32 fun i => bv (fx i)), .agg (arr 32 fun i => bv (fy i))] w fun e w' => e = .returned (.bool true) ∧ Below w.heap.size w w' := by
  obtain ⟨A, c, rfl, hlc, _⟩ := id hr
  obtain ⟨n, hn⟩ : ∃ n, l.length = n := ⟨_, rfl⟩
  obtain ⟨q, hq⟩ : ∃ q, min n 60 = q := ⟨_, rfl⟩
  rw [hn] at hr hlc ⊢
  have hr1 := hr.take (k := q) (by omega)
  have hn1 : (l.take q).length = q := by rw [List.length_take]; omega
  have hq60 : q ≤ 60 := by omega
  have HCUT := Lib.hid fun W => cut_any A n c 60 q hlc hq (by omega) W
  generalize l.take q = l1 at *
  obtain ⟨ax, hax⟩ : ∃ ax, (arr 32 fun i => bv (fx i)) = ax := ⟨_, rfl⟩
  obtain ⟨ay, hay⟩ : ∃ ay, (arr 32 fun i => bv (fy i)) = ay := ⟨_, rfl⟩
  rw [hax, hay]
  have hb0 : Below w.heap.size w ((w.alloc (.cells ax 30)).alloc (.cells ay 30)) := ((Below.refl _ _).alloc (Nat.le_refl _) _).alloc (by simp) _
  have hX0 : Blk ((w.alloc (.cells ax 30)).alloc (.cells ay 30)) w.heap.size 30 ax := (Blk.new w _ _).alloc _
  have hY0 : Blk ((w.alloc (.cells ax 30)).alloc (.cells ay 30)) (w.heap.size + 1) 30 ay := Blk.newAt _ _ (by simp) rfl
  have HGR := Lib.hid (grows_any _ (hT.below hb0))
  have HAX := Lib.hid (And.intro hax hay)
  have HX0 := Lib.hid hX0
  have HY0 := Lib.hid hY0
  have HB0 := Lib.hid hb0
  have HR1 := Lib.hid hr1
  have HT := Lib.hid hT
  have HN1 := Lib.hid hn1
  clear hax hay hb0 hX0 hY0 hT hr hr1 hn hq hlc
  have htl : (tops l1).length = pop q := tops_length q l1 hn1
  have hp7 : pop q ≤ 7 := pop_le 7 _ (by omega)
  have HOF : Hid (∀ W, Below w.heap.size w W → Calls Tryd.prog 19 #[.slice A q c] W fun e w' => ∃ g Z, e = .returned (.pointer (some ⟨g, 0, none⟩)) ∧ TreeAt w' Z g l1 ∧ Below W.heap.size W w' ∧ ∀ i, Z i → W.heap.size ≤ i) := Lib.hid fun W hb => treeOf_any (.slice A q c) l1 W (HT.out.below hb) ((HR1.out.old hb).mono fun b hb' => Nat.lt_of_lt_of_le hb' hb.size) (by omega)
  have HTP : Hid (∀ g Z W, TreeAt W Z g l1 → Calls Tryd.prog 25 #[.pointer (some ⟨g, 0, none⟩)] W fun e w' => ∃ A c, e = .returned (.slice A (pop q) c) ∧ w'.ownsRow W.heap.size 30 32 (.slice A (pop q) c) (pop q) (idCells (tops l1)) ∧ Below W.heap.size W w') := Lib.hid fun g Z W h => by
    refine (treeTops_any Z g l1 W h).mono ?_
    rintro e w' ⟨v', rfl, ho, hb⟩
    rw [htl] at ho
    obtain ⟨A, c, rfl, _⟩ := own_len ho
    exact ⟨A, c, rfl, ho, hb⟩
  have HRS : Hid (∀ W v, RdI W (fun b => b < W.heap.size) v (tops l1) → Calls Tryd.prog 30 #[.int .i64 (q : Int), v] W fun e w' => ∃ g Z, e = .returned (.tuple #[.pointer (some ⟨g, 0, none⟩), .int .i64 0]) ∧ TreeAt w' Z g l1 ∧ (∀ i, Z i → W.heap.size ≤ i) ∧ Below W.heap.size W w') := Lib.hid fun W v hr => by
    have := restore_tree l1 (by omega) v W hr
    rw [hn1] at this
    exact this
  have HTL := Lib.hid htl
  clear htl
  go_enter Tryd.func9, Tryd.ntmps9
  go_wp2_with (first
    | (go_at_call 17; refine HGR.out.mono ?_; rintro e W1 ⟨rfl, hb1⟩; have HX1 := Lib.hid (HX0.out.below hb1 HX0.out.lt); have HY1 := Lib.hid (HY0.out.below hb1 HY0.out.lt); have HB1 := Lib.hid (HB0.out.trans (hb1.mono HB0.out.size)); have HZ1 : Hid (w.heap.size + 2 ≤ W1.heap.size) := Lib.hid (by have := hb1.size; simp at this; omega); clear hb1 HGR HX0 HY0 HB0)
    | (go_at_call 18; refine (HCUT.out _).mono ?_; rintro e W1 ⟨rfl, rfl⟩; clear HCUT)
    | (go_at_call 19; refine (HOF.out _ HB1.out).mono ?_; rintro e W2 ⟨g, Z, rfl, ht, hb, hz⟩; have HA2 := Lib.hid ht; have HB2 := Lib.hid hb; have HZ2 := Lib.hid hz; clear ht hb hz HOF)
    | (go_at_call 25; refine (HTP.out g Z _ HA2.out).mono ?_; rintro e W3 ⟨At, ct, rfl, ho3, hb3⟩; have HB3 := Lib.hid (HB2.out.trans (hb3.mono HB2.out.size)); have HS3 := Lib.hid hb3.size; have HA3 := Lib.hid (RangeAt.below HA2.out hb3); have HO3 := Lib.hid ho3; have HV3 := Lib.hid (own_rd ho3 (by omega)); clear hb3 ho3 HTP)
    | (go_at_call 30; refine (HRS.out _ _ (HV3.out.mono fun b hb => hb.2.2)).mono ?_; rintro e W4 ⟨ga, Za, rfl, ha4, hza, hb4⟩; have HA4 := Lib.hid (RangeAt.below HA3.out hb4); have HP4 := Lib.hid ha4; have HZa := Lib.hid hza; have HB4 := Lib.hid (HB3.out.trans (hb4.mono HB3.out.size)); have HO4 := Lib.hid (Turn.own (Turn.of_below hb4) HO3.out (fun i hi => by have := (HO3.out.lt i hi).2; omega)); have HS4 := Lib.hid hb4.size; have HV4 := Lib.hid (HV3.out.kept (W' := W4) fun a x ha h => (hb4.cell (p := a) ha.2.2).trans h); clear ha4 hza hb4 HV3)
    | (go_at_call 30; refine (HRS.out _ _ (HV4.out.mono fun b hb => Nat.lt_of_lt_of_le hb.2.2 HS4.out)).mono ?_; rintro e W5 ⟨gb, Zb, rfl, hb5', hzb, hb5⟩; have HA5 := Lib.hid (RangeAt.below HA4.out hb5); have HP5 := Lib.hid (RangeAt.below HP4.out hb5); have HQ5 := Lib.hid hb5'; have HZb := Lib.hid hzb; have HB5 := Lib.hid (HB4.out.trans (hb5.mono HB4.out.size)); have HO5 := Lib.hid (Turn.own (Turn.of_below hb5) HO4.out (fun i hi => by have := (HO4.out.lt i hi).2; omega)); have HS5 := Lib.hid hb5.size; clear hb5' hzb hb5))
  have hroomA : ∀ i, Za i → ¬ (W2.heap.size ≤ i ∧ i < W3.heap.size) := fun i hi h => by have := HZa.out i hi; omega
  have hroomB : ∀ i, Zb i → ¬ (W2.heap.size ≤ i ∧ i < W3.heap.size) := fun i hi h => by have := HZb.out i hi; have := HS4.out; omega
  have hroomR : ∀ i, Z i → ¬ (W2.heap.size ≤ i ∧ i < W3.heap.size) := fun i hi h => by have := RangeAt.lt HA2.out i hi; omega
  have HRM := Lib.hid (And.intro hroomR (And.intro hroomA hroomB))
  have HO35 : Hid (∀ i, (Value.slice At (pop q) ct).ownBlock = some i → W2.heap.size ≤ i ∧ i < W3.heap.size) := Lib.hid fun i hi => HO3.out.lt i hi
  have HRU := Lib.hid (rowU_own HO5.out HTL.out)
  clear hroomA hroomB hroomR HO4
  generalize pop q = p at *
  go_loopw [54] (fun i wr => ∃ k : Nat, k ≤ p ∧ i = .int .i64 (k : Int) ∧ RowU wr At p ∧ Turn (fun i => W2.heap.size ≤ i ∧ i < W3.heap.size) W5 wr) (fun i _ => p - (intOf i).toNat)
  case atStart => exact ⟨0, Nat.zero_le _, rfl, HRU.out, Turn.refl _ _⟩
  case round =>
    obtain ⟨k, hk, rfl, hu, ht⟩ := hrel
    by_cases hlt : k < p
    · have hkp : (k : Int) < (p : Int) := by omega
      have hk0 : (0 : Int) ≤ (k : Int) := by omega
      have hk7 : (k : Int) ≤ 7 := by omega
      obtain ⟨gt, rfl, x, hc, hf⟩ := hu k hlt
      have hgt := HO35.out gt rfl
      have HU := Lib.hid hu
      have HTT := Lib.hid ht
      clear hu ht
      have HXB := Lib.hid (bv_inc x)
      obtain ⟨xa, hxa⟩ : ∃ xa : Int, (x.toNat : Int) = xa := ⟨_, rfl⟩
      have hxv : bv x = .int .u8 xa := by rw [← hxa]; rfl
      rw [hxa] at HXB
      rw [hxv] at hc
      clear hxa hxv
      go_wp2
      go_region_with (fail)
      all_goals (
        go_wp2_with fail
        go_roundw
        case rel =>
          refine ⟨k + 1, by omega, by go_num, ?_, (HTT.out.setCell (p := ⟨gt, k * 32, none⟩) (fun _ => hgt) _).drew⟩
          have := rowU_store HU.out ⟨gt, k * 32, none⟩ (x + 1)
          rw [HXB.out] at this
          exact this
        case measure => simp [intOf]; omega)
    · obtain rfl : k = p := by omega
      have HTT := Lib.hid ht
      have HA6 := Lib.hid (RangeAt.turn HA5.out ht HRM.out.1)
      have HP6 := Lib.hid (RangeAt.turn HP5.out ht HRM.out.2.1)
      have HQ6 := Lib.hid (RangeAt.turn HQ5.out ht HRM.out.2.2)
      have HS6 := Lib.hid ht.size
      have HB6 : Hid (Below W1.heap.size W1 wr) := Lib.hid (HB5.out.trans (ht.below HB5.out.size (fun i hi h => by have := HB2.out.size; omega)))
      obtain ⟨hax, hay⟩ := HAX.out
      subst hax hay
      have HT1 := Lib.hid (HT.out.below HB1.out)
      have HX6 := Lib.hid (HX1.out.below HB6.out HX1.out.lt)
      have HY6 := Lib.hid (HY1.out.below HB6.out HY1.out.lt)
      have hd1 : ∀ i, Z i → ¬ Za i := fun i h1 h2 => by have := RangeAt.lt HA3.out i h1; have := HZa.out i h2; omega
      have hd2 : ∀ i, Zb i → ¬ Za i := fun i h1 h2 => by have := RangeAt.lt HP4.out i h2; have := HZb.out i h1; omega
      have hd3 : ∀ i, Z i → ¬ Zb i := fun i h1 h2 => by have := RangeAt.lt HA4.out i h1; have := HZb.out i h2; omega
      have HZ1a : Hid (∀ i, Za i → W1.heap.size ≤ i) := Lib.hid fun i hi => by have := HZa.out i hi; have := HB3.out.size; omega
      have HZ1b : Hid (∀ i, Zb i → W1.heap.size ≤ i) := Lib.hid fun i hi => by have := HZb.out i hi; have := HB4.out.size; omega
      have HZb5 := Lib.hid (fun i hi => RangeAt.lt HQ5.out i hi)
      have HD := Lib.hid (And.intro hd1 (And.intro hd2 hd3))
      have HAPa := Lib.hid (append_one W1 HT1.out Za ga l1 fx wr wr (TLeft.refl HP6.out) HB6.out HZ1a.out (by rw [HN1.out]; omega))
      have HAPb : Hid (∀ W7, Below W1.heap.size W1 W7 → TreeAt W7 Zb gb l1 → Calls Tryd.prog 20 #[.pointer (some ⟨gb, 0, none⟩), .slice (some ⟨W7.heap.size, 0, none⟩) 1 1] (W7.alloc (.cells (arr 32 fun i => bv (fy i)) 30)) fun e w' => e = .returned (.int .i64 0) ∧ TLeft Zb gb (l1 ++ [fy]) W7 w') := Lib.hid fun W7 hb h => append_one W1 HT1.out Zb gb l1 fy W7 W7 (TLeft.refl h) hb HZ1b.out (by rw [HN1.out]; omega)
      clear hu ht hd1 hd2 hd3
      go_wp2_with (first
        | (refine wpList_load_arr rfl 30 _ rfl w.heap.size rfl 30 (arr 32 fun i => bv (fx i)) _ HX6.out Tryd.underlying30 rfl (by rw [arr_size]; kernel_rfl) ?_; clear HX6)
        | (refine wpList_load_arr rfl 30 _ rfl (w.heap.size + 1) rfl 30 (arr 32 fun i => bv (fy i)) _ HY7.out Tryd.underlying30 rfl (by rw [arr_size]; kernel_rfl) ?_; clear HY7)
        | (guard_target = wpList _ _ _ (Oper.mk _ (.buildSlice _ _ _) _ _ _ _ :: _) _ _; refine wpList_build_idA rfl _ rfl fx rfl ?_)
        | (guard_target = wpList _ _ _ (Oper.mk _ (.buildSlice _ _ _) _ _ _ _ :: _) _ _; refine wpList_build_idA rfl _ rfl fy rfl ?_)
        | (go_at_call 20; refine HPB.out.mono ?_; rintro e W8 ⟨rfl, Zb', h1, h2, h3⟩; have HQ8 := Lib.hid h1; have HA8 := Lib.hid (RangeAt.turn HA7.out h2 HD.out.2.2); have HP8 := Lib.hid (RangeAt.turn HP7.out h2 HD7.out); have HB8 := Lib.hid (HB7.out.trans (h2.below HB7.out.size fun i hi hz => by have := HZ1b.out i hz; omega)); clear h1 h2 h3 HPB HA7 HP7 HQ7)
        | (go_at_call 20; refine HAPa.out.mono ?_; rintro e W7 ⟨rfl, Za', h1, h2, h3⟩; have HP7 := Lib.hid h1; have HA7 := Lib.hid (RangeAt.turn HA6.out h2 HD.out.1); have HQ7 := Lib.hid (RangeAt.turn HQ6.out h2 HD.out.2.1); have HB7 := Lib.hid (HB6.out.trans (h2.below HB6.out.size fun i hi hz => by have := HZ1a.out i hz; omega)); have HD7 := Lib.hid (show ∀ i, Za' i → ¬ Zb i from fun i hi hz => by rcases h3 i hi with h | h; exact HD.out.2.1 i hz h; have := HZb5.out i hz; have := HS6.out; omega); clear h1 h2 h3 HAPa HA6 HP6 HQ6; have HY7 := Lib.hid (HY1.out.below HB7.out HY1.out.lt); have HPB := Lib.hid (HAPb.out W7 HB7.out HQ7.out)))
      have HX8 := Lib.hid (HX1.out.below HB8.out HX1.out.lt)
      have HY8 := Lib.hid (HY1.out.below HB8.out HY1.out.lt)
      have HSX : Hid (∀ W', Below W8.heap.size W8 W' → (fun W' => Blk W' w.heap.size 30 (arr 32 fun i => bv (fx i)) ∧ Blk W' (w.heap.size + 1) 30 (arr 32 fun i => bv (fy i))) W') := Lib.hid fun W' hb => ⟨HX8.out.below hb HX8.out.lt, HY8.out.below hb HY8.out.lt⟩
      have HRA : Hid (∀ W, Below W8.heap.size W8 W → Calls Tryd.prog 21 #[.pointer (some ⟨ga, 0, none⟩)] W fun e w' => e = .returned (.agg (arr 32 fun i => bv (mth (l1 ++ [fx]) i))) ∧ Below W.heap.size W w') := Lib.hid fun W hb => callsIn_wide.1 (treeRoot_any Za' ga _ W (HT1.out.below (HB8.out.trans (hb.mono HB8.out.size))) (RangeAt.below HP8.out hb))
      have HRB : Hid (∀ W, Below W8.heap.size W8 W → Calls Tryd.prog 21 #[.pointer (some ⟨gb, 0, none⟩)] W fun e w' => e = .returned (.agg (arr 32 fun i => bv (mth (l1 ++ [fy]) i))) ∧ Below W.heap.size W w') := Lib.hid fun W hb => callsIn_wide.1 (treeRoot_any Zb' gb _ W (HT1.out.below (HB8.out.trans (hb.mono HB8.out.size))) (RangeAt.below HQ8.out hb))
      have HRR : Hid (∀ W, Below W8.heap.size W8 W → Calls Tryd.prog 21 #[.pointer (some ⟨g, 0, none⟩)] W fun e w' => e = .returned (.agg (arr 32 fun i => bv (mth l1 i))) ∧ Below W.heap.size W w') := Lib.hid fun W hb => callsIn_wide.1 (treeRoot_any Z g _ W (HT1.out.below (HB8.out.trans (hb.mono HB8.out.size))) (RangeAt.below HA8.out hb))
      have HRL : Hid (∀ W, Below W8.heap.size W8 W → RdI W (fun b => b < W.heap.size) (.slice A q c) l1) := Lib.hid fun W hb => by
        have hb' := HB1.out.trans ((HB8.out.trans (hb.mono HB8.out.size)).mono HB1.out.size)
        exact (HR1.out.old hb').mono fun b hb'' => Nat.lt_of_lt_of_le hb'' hb'.size
      have HFL : Hid (∀ W, Below W8.heap.size W8 W → Calls Tryd.prog 22 #[.slice A q c] W fun e w' => e = .returned (.agg (arr 32 fun i => bv (mth l1 i))) ∧ Below W.heap.size W w') := Lib.hid fun W hb => refRoot_any q l1 _ W HN1.out (by omega) (HRL.out W hb)
      have HFX : Hid (∀ W v, Below W8.heap.size W8 W → RdI W (fun b => b < W.heap.size) v (l1 ++ [fx]) → Calls Tryd.prog 22 #[v] W fun e w' => e = .returned (.agg (arr 32 fun i => bv (mth (l1 ++ [fx]) i))) ∧ Below W.heap.size W w') := Lib.hid fun W v _ hr => refRoot_any _ _ _ W rfl (by rw [List.length_append, HN1.out]; simp; omega) hr
      have HFY : Hid (∀ W v, Below W8.heap.size W8 W → RdI W (fun b => b < W.heap.size) v (l1 ++ [fy]) → Calls Tryd.prog 22 #[v] W fun e w' => e = .returned (.agg (arr 32 fun i => bv (mth (l1 ++ [fy]) i))) ∧ Below W.heap.size W w') := Lib.hid fun W v _ hr => refRoot_any _ _ _ W rfl (by rw [List.length_append, HN1.out]; simp; omega) hr
      have eq1 := eql_id (mth (l1 ++ [fx])) (mth (l1 ++ [fx]))
      have eq2 := eql_id (mth (l1 ++ [fy])) (mth (l1 ++ [fy]))
      have eq3 := eql_id (mth l1) (mth l1)
      rw [beq_self_eq_true] at eq1 eq2 eq3
      have hbX : Below W8.heap.size W8 W8.drew := (Below.refl _ _).drew
      refine wp_region_held_drew (S := fun W' => Blk W' w.heap.size 30 (arr 32 fun i => bv (fx i)) ∧ Blk W' (w.heap.size + 1) 30 (arr 32 fun i => bv (fy i))) (by kernel_rfl) ?_ (fun hHeld => ?_)
      · exact HSX.out _ hbX
      refine with_key 19 #[true, true, true, true, true, true, true, true, true, true, true, false, false, false, false, false, false, false, false, false, false, false, false, false, false, false, false, false, false, false] (fun a W => ∃ v76 v78 v80 v81 : Value, a = { tmps := #[.slice A q c, .agg (arr 32 fun i => bv (fx i)), .agg (arr 32 fun i => bv (fy i)), undef, .pointer (some ⟨w.heap.size, 0, none⟩), .pointer (some ⟨w.heap.size + 1, 0, none⟩), .bool false, .pointer (some ⟨g, 0, none⟩), .slice At k ct, .pointer (some ⟨ga, 0, none⟩), .int .i64 0, .pointer (some ⟨gb, 0, none⟩), .int .i64 0, u13, .bool true, .bool false, .slice A n c, .slice A q c, .slice A q c, .pointer (some ⟨g, 0, none⟩), .pointer (some ⟨g, 0, none⟩), .bool false, .pointer (some ⟨g, 0, none⟩), .slice At k ct, .tuple #[.pointer (some ⟨ga, 0, none⟩), .int .i64 0], .slice A q c, .int .i64 (q : Int), .slice At k ct, .tuple #[.pointer (some ⟨ga, 0, none⟩), .int .i64 0], .pointer (some ⟨ga, 0, none⟩), .int .i64 0, .tuple #[.pointer (some ⟨gb, 0, none⟩), .int .i64 0], .slice A q c, .int .i64 (q : Int), .slice At k ct, .tuple #[.pointer (some ⟨gb, 0, none⟩), .int .i64 0], .pointer (some ⟨gb, 0, none⟩), .int .i64 0, .pointer (some ⟨ga, 0, none⟩), .bool false, .bool false, .pointer (some ⟨gb, 0, none⟩), .bool false, .bool false, .bool false, .int .i64 0, .bool false, .bool false, .bool false, .int .i64 0, .bool false, .bool false, .slice At k ct, .int .i64 (k : Int), .int .i64 (k : Int), .bool false, u56, u57, u58, u59, u60, u61, u62, u63, u64, u65, .pointer (some ⟨ga, 0, none⟩), .agg (arr 32 fun i => bv (fx i)), .slice (some ⟨wr.heap.size, 0, none⟩) 1 1, .int .i64 0, .pointer (some ⟨gb, 0, none⟩), .agg (arr 32 fun i => bv (fy i)), .slice (some ⟨W7.heap.size, 0, none⟩) 1 1, .int .i64 0, .pointer (some ⟨ga, 0, none⟩), .agg (arr 32 fun i => bv (mth (l1 ++ [fx]) i)), v76, .slice A q c, v78, .agg (arr 32 fun i => bv (fx i)), v80, v81, .agg (arr 32 fun i => bv (mth (l1 ++ [fx]) i)), .bool true, .bool true, undef, undef, undef, undef, undef, undef, undef, undef, undef, undef, undef, undef, undef, undef, undef, undef, undef, undef], defers := [] } ∧ Below W8.heap.size W8 W) ?key1 (fun key1 => ?main1)
      case main1 =>
        refine wpAnyH_take (i := 0) (oi := ⟨some 74, _, _, _, _, _⟩) (v := ?_) rfl (by kernel_rfl) (by kernel_rfl) (by kernel_rfl) (fun _ _ _ h => h) (Or.inl ⟨by rfl, ?_⟩) (by assumption) ?_
        rotate_left
        · intro w hSw; (try dsimp only at hSw); go_simp; try (with_reducible rfl)
        rotate_left 0
        try simp only [Act.put, List.setIfInBounds_toArray, List.set_cons_zero, List.set_cons_succ]
        refine wpAnyH_take (i := 3) (oi := ⟨some 77, _, _, _, _, _⟩) (v := ?_) rfl (by kernel_rfl) (by kernel_rfl) (by kernel_rfl) (fun _ _ _ h => h) (Or.inl ⟨by rfl, ?_⟩) (by assumption) ?_
        rotate_left
        · intro w hSw; (try dsimp only at hSw); go_simp; try (with_reducible rfl)
        rotate_left 0
        try simp only [Act.put, List.setIfInBounds_toArray, List.set_cons_zero, List.set_cons_succ]
        refine wpAnyH_take (i := 5) (oi := ⟨some 79, _, _, _, _, _⟩) (v := (.agg (arr 32 fun i => bv (fx i)))) rfl (by kernel_rfl) (by kernel_rfl) (by kernel_rfl) (fun _ _ _ h => h) (yieldsIf_load_at (by rfl) 30 _ rfl ⟨w.heap.size, 0, none⟩ rfl 32 (fun i => bv (fx i)) 5 (fun _ hS i hi => by rw [add_zero_block, hS.1.cell, arr_get, if_pos hi]) Tryd.underlying30 (by kernel_rfl)) (by assumption) ?_
        try simp only [Act.put, List.setIfInBounds_toArray, List.set_cons_zero, List.set_cons_succ]
        refine wpAnyH_ready (rs := [1, 2, 6]) (by kernel_rfl) (by simp) ?_
        refine (AllReadyH.cons (o := ⟨some 75, _, _, _, _, _⟩) rfl (fun K hK => ?_) (AllReadyH.cons (o := ⟨some 76, _, _, _, _, _⟩) rfl (fun K hK => ?_) (AllReadyH.cons (o := ⟨some 80, _, _, _, _, _⟩) rfl (fun K hK => ?_) AllReadyH.nil)))
        · (try rw [if_pos (by rfl)])
          go_simp
          refine (HRA.out _ hbX).mono ?_
          rintro e Wn ⟨rfl, hbn⟩
          (try replace hO := Turn.own (Turn.of_below hbn) hO (fun i hi => by have := (hO.lt i hi).2; omega))
          (try replace hKB := Blk.below hKB hbn (Blk.lt hKB))
          replace hbX := hbX.trans (hbn.mono hbX.size)
          try dsimp only
          refine hK.out _ _ (HSX.out _ hbX) (fun hHeld => ?_)
          clear hK K
          try simp only [Act.put, List.setIfInBounds_toArray, List.set_cons_zero, List.set_cons_succ]
          refine wpAnyH_ready (rs := [2, 6]) (by kernel_rfl) (by simp) ?_
          refine (AllReadyH.cons (o := ⟨some 76, _, _, _, _, _⟩) rfl (fun K hK => ?_) (AllReadyH.cons (o := ⟨some 80, _, _, _, _, _⟩) rfl (fun K hK => ?_) AllReadyH.nil))
          · (try rw [if_pos (by rfl)])
            go_simp
            first | refine alloc_gen ?_ | refine alloc_genD ?_
            intro Wa hka hba
            have hb0 := hbX.size
            have hO := own_empty hka (B := W8.heap.size) (by first | exact hb0 | exact Nat.le_refl _)
            (try have hKl := Blk.lt hKB)
            (try replace hKB := Blk.below hKB hba hKl)
            replace hbX : Below W8.heap.size W8 Wa := by first | exact hbX.trans (hba.mono hbX.size) | exact hba
            (try have hne := ne_new (n := 0) (c := 0) hKl)
            try dsimp only
            refine hK.out _ _ (HSX.out _ hbX) (fun hHeld => ?_)
            clear hK K
            try simp only [Act.put, List.setIfInBounds_toArray, List.set_cons_zero, List.set_cons_succ]
            refine wpAnyH_ready (rs := [4, 6]) (by kernel_rfl) (by simp) ?_
            refine (AllReadyH.cons (o := ⟨some 78, _, _, _, _, _⟩) rfl (fun K hK => ?_) (AllReadyH.cons (o := ⟨some 80, _, _, _, _, _⟩) rfl (fun K hK => ?_) AllReadyH.nil))
            · (try rw [if_pos (by rfl)])
              obtain ⟨vn, Wn, hrun, ho, hgr, hv⟩ := app_idsO hbX.size hO (HRL.out _ hbX) (by omega)
              refine oper_append _ _ _ _ rfl _ _ rfl rfl _ _ hrun ?_
              have hbn : Below W8.heap.size W8 Wn := grown_below hbX hgr (fun i hi => (hO.lt i hi).1)
              (try have hKl := Blk.lt hKB)
              (try replace hKB := Blk.grown hKB hgr (fun e => hne _ e.symm rfl))
              (try replace hne := ne_app hne hv hKl)
              have hO := ho
              replace hbX := hbn
              clear hrun ho hgr hv hbn
              try simp only [Act.put, List.setIfInBounds_toArray, List.set_cons_zero, List.set_cons_succ]
              try dsimp only
              refine hK.out _ _ (HSX.out _ hbX) (fun hHeld => ?_)
              clear hK K
              try simp only [Act.put, List.setIfInBounds_toArray, List.set_cons_zero, List.set_cons_succ]
              refine wpAnyH_ready (rs := [6]) (by kernel_rfl) (by simp) ?_
              refine (AllReadyH.cons (o := ⟨some 80, _, _, _, _, _⟩) rfl (fun K hK => ?_) AllReadyH.nil)
              (try rw [if_pos (by rfl)])
              refine wp_build_idc _ rfl fx (by rw [← idc_arr]; rfl) ?_
              first | refine alloc_gen ?_ | refine alloc_genD ?_
              intro Wa hka hba
              have hKB := hka
              have hKW := hbX.size
              (try have hne := ne_old hO)
              (try replace hO := Turn.own (Turn.of_below hba) hO (fun i hi => by have := (hO.lt i hi).2; omega))
              replace hbX : Below W8.heap.size W8 Wa := by first | exact hbX.trans (hba.mono hbX.size) | exact hba
              try dsimp only
              refine hK.out _ _ (HSX.out _ hbX) (fun hHeld => ?_)
              clear hK K
              try simp only [Act.put, List.setIfInBounds_toArray, List.set_cons_zero, List.set_cons_succ]
              refine wpAnyH_ready (rs := [7]) (by kernel_rfl) (by simp) ?_
              refine (AllReadyH.cons (o := ⟨some 81, _, _, _, _, _⟩) rfl (fun K hK => ?_) AllReadyH.nil)
              (try rw [if_pos (by rfl)])
              obtain ⟨vn, Wn, hrun, ho, hgr⟩ := app_one hbX.size hO fx hKB (by omega)
              refine oper_append _ _ _ _ rfl _ _ rfl rfl _ _ hrun ?_
              have hbn : Below W8.heap.size W8 Wn := grown_below hbX hgr (fun i hi => (hO.lt i hi).1)
              have hRd := rd_snoc ho HN1.out hq60
              replace hbX := hbn
              clear hrun ho hgr hbn hO hKB
              try simp only [Act.put, List.setIfInBounds_toArray, List.set_cons_zero, List.set_cons_succ]
              try dsimp only
              refine hK.out _ _ (HSX.out _ hbX) (fun hHeld => ?_)
              clear hK K
              try simp only [Act.put, List.setIfInBounds_toArray, List.set_cons_zero, List.set_cons_succ]
              refine wpAnyH_ready (rs := [8]) (by kernel_rfl) (by simp) ?_
              refine (AllReadyH.cons (o := ⟨some 82, _, _, _, _, _⟩) rfl (fun K hK => ?_) AllReadyH.nil)
              (try rw [if_pos (by rfl)])
              go_simp
              refine (HFX.out _ _ hbX hRd).mono ?_
              rintro e Wn ⟨rfl, hbn⟩
              replace hbX := hbX.trans (hbn.mono hbX.size)
              clear hRd
              try dsimp only
              refine hK.out _ _ (HSX.out _ hbX) (fun hHeld => ?_)
              clear hK K
              try simp only [Act.put, List.setIfInBounds_toArray, List.set_cons_zero, List.set_cons_succ]
              refine wpAnyH_take (i := 9) (oi := ⟨some 83, _, _, _, _, _⟩) (v := ?_) rfl (by kernel_rfl) (by kernel_rfl) (by kernel_rfl) (fun _ _ _ h => h) (Or.inl ⟨by rfl, ?_⟩) (by assumption) ?_
              rotate_left
              · intro w hSw; (try dsimp only at hSw); go_simp; try (with_reducible rfl)
              rotate_left 0
              try simp only [Act.put, List.setIfInBounds_toArray, List.set_cons_zero, List.set_cons_succ]
              refine wpAnyH_take (i := 10) (oi := ⟨some 84, _, _, _, _, _⟩) (v := ?_) rfl (by kernel_rfl) (by kernel_rfl) (by kernel_rfl) (fun _ _ _ h => h) (Or.inl ⟨by rfl, ?_⟩) (by assumption) ?_
              rotate_left
              · intro w hSw; (try dsimp only at hSw); go_simp; try (with_reducible rfl)
              rotate_left 0
              try simp only [Act.put, List.setIfInBounds_toArray, List.set_cons_zero, List.set_cons_succ]
              exact key1 _ _ _ (by kernel_rfl) ⟨_, _, _, _, rfl, hbX⟩
            · (try rw [if_pos (by rfl)])
              refine wp_build_idc _ rfl fx (by rw [← idc_arr]; rfl) ?_
              first | refine alloc_gen ?_ | refine alloc_genD ?_
              intro Wa hka hba
              have hKB := hka
              have hKW := hbX.size
              (try have hne := ne_old hO)
              (try replace hO := Turn.own (Turn.of_below hba) hO (fun i hi => by have := (hO.lt i hi).2; omega))
              replace hbX : Below W8.heap.size W8 Wa := by first | exact hbX.trans (hba.mono hbX.size) | exact hba
              try dsimp only
              refine hK.out _ _ (HSX.out _ hbX) (fun hHeld => ?_)
              clear hK K
              try simp only [Act.put, List.setIfInBounds_toArray, List.set_cons_zero, List.set_cons_succ]
              refine wpAnyH_ready (rs := [4]) (by kernel_rfl) (by simp) ?_
              refine (AllReadyH.cons (o := ⟨some 78, _, _, _, _, _⟩) rfl (fun K hK => ?_) AllReadyH.nil)
              (try rw [if_pos (by rfl)])
              obtain ⟨vn, Wn, hrun, ho, hgr, hv⟩ := app_idsO hbX.size hO (HRL.out _ hbX) (by omega)
              refine oper_append _ _ _ _ rfl _ _ rfl rfl _ _ hrun ?_
              have hbn : Below W8.heap.size W8 Wn := grown_below hbX hgr (fun i hi => (hO.lt i hi).1)
              (try have hKl := Blk.lt hKB)
              (try replace hKB := Blk.grown hKB hgr (fun e => hne _ e.symm rfl))
              (try replace hne := ne_app hne hv hKl)
              have hO := ho
              replace hbX := hbn
              clear hrun ho hgr hv hbn
              try simp only [Act.put, List.setIfInBounds_toArray, List.set_cons_zero, List.set_cons_succ]
              try dsimp only
              refine hK.out _ _ (HSX.out _ hbX) (fun hHeld => ?_)
              clear hK K
              try simp only [Act.put, List.setIfInBounds_toArray, List.set_cons_zero, List.set_cons_succ]
              refine wpAnyH_ready (rs := [7]) (by kernel_rfl) (by simp) ?_
              refine (AllReadyH.cons (o := ⟨some 81, _, _, _, _, _⟩) rfl (fun K hK => ?_) AllReadyH.nil)
              (try rw [if_pos (by rfl)])
              obtain ⟨vn, Wn, hrun, ho, hgr⟩ := app_one hbX.size hO fx hKB (by omega)
              refine oper_append _ _ _ _ rfl _ _ rfl rfl _ _ hrun ?_
              have hbn : Below W8.heap.size W8 Wn := grown_below hbX hgr (fun i hi => (hO.lt i hi).1)
              have hRd := rd_snoc ho HN1.out hq60
              replace hbX := hbn
              clear hrun ho hgr hbn hO hKB
              try simp only [Act.put, List.setIfInBounds_toArray, List.set_cons_zero, List.set_cons_succ]
              try dsimp only
              refine hK.out _ _ (HSX.out _ hbX) (fun hHeld => ?_)
              clear hK K
              try simp only [Act.put, List.setIfInBounds_toArray, List.set_cons_zero, List.set_cons_succ]
              refine wpAnyH_ready (rs := [8]) (by kernel_rfl) (by simp) ?_
              refine (AllReadyH.cons (o := ⟨some 82, _, _, _, _, _⟩) rfl (fun K hK => ?_) AllReadyH.nil)
              (try rw [if_pos (by rfl)])
              go_simp
              refine (HFX.out _ _ hbX hRd).mono ?_
              rintro e Wn ⟨rfl, hbn⟩
              replace hbX := hbX.trans (hbn.mono hbX.size)
              clear hRd
              try dsimp only
              refine hK.out _ _ (HSX.out _ hbX) (fun hHeld => ?_)
              clear hK K
              try simp only [Act.put, List.setIfInBounds_toArray, List.set_cons_zero, List.set_cons_succ]
              refine wpAnyH_take (i := 9) (oi := ⟨some 83, _, _, _, _, _⟩) (v := ?_) rfl (by kernel_rfl) (by kernel_rfl) (by kernel_rfl) (fun _ _ _ h => h) (Or.inl ⟨by rfl, ?_⟩) (by assumption) ?_
              rotate_left
              · intro w hSw; (try dsimp only at hSw); go_simp; try (with_reducible rfl)
              rotate_left 0
              try simp only [Act.put, List.setIfInBounds_toArray, List.set_cons_zero, List.set_cons_succ]
              refine wpAnyH_take (i := 10) (oi := ⟨some 84, _, _, _, _, _⟩) (v := ?_) rfl (by kernel_rfl) (by kernel_rfl) (by kernel_rfl) (fun _ _ _ h => h) (Or.inl ⟨by rfl, ?_⟩) (by assumption) ?_
              rotate_left
              · intro w hSw; (try dsimp only at hSw); go_simp; try (with_reducible rfl)
              rotate_left 0
              try simp only [Act.put, List.setIfInBounds_toArray, List.set_cons_zero, List.set_cons_succ]
              exact key1 _ _ _ (by kernel_rfl) ⟨_, _, _, _, rfl, hbX⟩
          · (try rw [if_pos (by rfl)])
            refine wp_build_idc _ rfl fx (by rw [← idc_arr]; rfl) ?_
            first | refine alloc_gen ?_ | refine alloc_genD ?_
            intro Wa hka hba
            have hKB := hka
            have hKW := hbX.size
            (try have hne := ne_old hO)
            (try replace hO := Turn.own (Turn.of_below hba) hO (fun i hi => by have := (hO.lt i hi).2; omega))
            replace hbX : Below W8.heap.size W8 Wa := by first | exact hbX.trans (hba.mono hbX.size) | exact hba
            try dsimp only
            refine hK.out _ _ (HSX.out _ hbX) (fun hHeld => ?_)
            clear hK K
            try simp only [Act.put, List.setIfInBounds_toArray, List.set_cons_zero, List.set_cons_succ]
            refine wpAnyH_ready (rs := [2]) (by kernel_rfl) (by simp) ?_
            refine (AllReadyH.cons (o := ⟨some 76, _, _, _, _, _⟩) rfl (fun K hK => ?_) AllReadyH.nil)
            (try rw [if_pos (by rfl)])
            go_simp
            first | refine alloc_gen ?_ | refine alloc_genD ?_
            intro Wa hka hba
            have hb0 := hbX.size
            have hO := own_empty hka (B := W8.heap.size) (by first | exact hb0 | exact Nat.le_refl _)
            (try have hKl := Blk.lt hKB)
            (try replace hKB := Blk.below hKB hba hKl)
            replace hbX : Below W8.heap.size W8 Wa := by first | exact hbX.trans (hba.mono hbX.size) | exact hba
            (try have hne := ne_new (n := 0) (c := 0) hKl)
            try dsimp only
            refine hK.out _ _ (HSX.out _ hbX) (fun hHeld => ?_)
            clear hK K
            try simp only [Act.put, List.setIfInBounds_toArray, List.set_cons_zero, List.set_cons_succ]
            refine wpAnyH_ready (rs := [4]) (by kernel_rfl) (by simp) ?_
            refine (AllReadyH.cons (o := ⟨some 78, _, _, _, _, _⟩) rfl (fun K hK => ?_) AllReadyH.nil)
            (try rw [if_pos (by rfl)])
            obtain ⟨vn, Wn, hrun, ho, hgr, hv⟩ := app_idsO hbX.size hO (HRL.out _ hbX) (by omega)
            refine oper_append _ _ _ _ rfl _ _ rfl rfl _ _ hrun ?_
            have hbn : Below W8.heap.size W8 Wn := grown_below hbX hgr (fun i hi => (hO.lt i hi).1)
            (try have hKl := Blk.lt hKB)
            (try replace hKB := Blk.grown hKB hgr (fun e => hne _ e.symm rfl))
            (try replace hne := ne_app hne hv hKl)
            have hO := ho
            replace hbX := hbn
            clear hrun ho hgr hv hbn
            try simp only [Act.put, List.setIfInBounds_toArray, List.set_cons_zero, List.set_cons_succ]
            try dsimp only
            refine hK.out _ _ (HSX.out _ hbX) (fun hHeld => ?_)
            clear hK K
            try simp only [Act.put, List.setIfInBounds_toArray, List.set_cons_zero, List.set_cons_succ]
            refine wpAnyH_ready (rs := [7]) (by kernel_rfl) (by simp) ?_
            refine (AllReadyH.cons (o := ⟨some 81, _, _, _, _, _⟩) rfl (fun K hK => ?_) AllReadyH.nil)
            (try rw [if_pos (by rfl)])
            obtain ⟨vn, Wn, hrun, ho, hgr⟩ := app_one hbX.size hO fx hKB (by omega)
            refine oper_append _ _ _ _ rfl _ _ rfl rfl _ _ hrun ?_
            have hbn : Below W8.heap.size W8 Wn := grown_below hbX hgr (fun i hi => (hO.lt i hi).1)
            have hRd := rd_snoc ho HN1.out hq60
            replace hbX := hbn
            clear hrun ho hgr hbn hO hKB
            try simp only [Act.put, List.setIfInBounds_toArray, List.set_cons_zero, List.set_cons_succ]
            try dsimp only
            refine hK.out _ _ (HSX.out _ hbX) (fun hHeld => ?_)
            clear hK K
            try simp only [Act.put, List.setIfInBounds_toArray, List.set_cons_zero, List.set_cons_succ]
            refine wpAnyH_ready (rs := [8]) (by kernel_rfl) (by simp) ?_
            refine (AllReadyH.cons (o := ⟨some 82, _, _, _, _, _⟩) rfl (fun K hK => ?_) AllReadyH.nil)
            (try rw [if_pos (by rfl)])
            go_simp
            refine (HFX.out _ _ hbX hRd).mono ?_
            rintro e Wn ⟨rfl, hbn⟩
            replace hbX := hbX.trans (hbn.mono hbX.size)
            clear hRd
            try dsimp only
            refine hK.out _ _ (HSX.out _ hbX) (fun hHeld => ?_)
            clear hK K
            try simp only [Act.put, List.setIfInBounds_toArray, List.set_cons_zero, List.set_cons_succ]
            refine wpAnyH_take (i := 9) (oi := ⟨some 83, _, _, _, _, _⟩) (v := ?_) rfl (by kernel_rfl) (by kernel_rfl) (by kernel_rfl) (fun _ _ _ h => h) (Or.inl ⟨by rfl, ?_⟩) (by assumption) ?_
            rotate_left
            · intro w hSw; (try dsimp only at hSw); go_simp; try (with_reducible rfl)
            rotate_left 0
            try simp only [Act.put, List.setIfInBounds_toArray, List.set_cons_zero, List.set_cons_succ]
            refine wpAnyH_take (i := 10) (oi := ⟨some 84, _, _, _, _, _⟩) (v := ?_) rfl (by kernel_rfl) (by kernel_rfl) (by kernel_rfl) (fun _ _ _ h => h) (Or.inl ⟨by rfl, ?_⟩) (by assumption) ?_
            rotate_left
            · intro w hSw; (try dsimp only at hSw); go_simp; try (with_reducible rfl)
            rotate_left 0
            try simp only [Act.put, List.setIfInBounds_toArray, List.set_cons_zero, List.set_cons_succ]
            exact key1 _ _ _ (by kernel_rfl) ⟨_, _, _, _, rfl, hbX⟩
        · (try rw [if_pos (by rfl)])
          go_simp
          first | refine alloc_gen ?_ | refine alloc_genD ?_
          intro Wa hka hba
          have hb0 := hbX.size
          have hO := own_empty hka (B := W8.heap.size) (by first | exact hb0 | exact Nat.le_refl _)
          (try have hKl := Blk.lt hKB)
          (try replace hKB := Blk.below hKB hba hKl)
          replace hbX : Below W8.heap.size W8 Wa := by first | exact hbX.trans (hba.mono hbX.size) | exact hba
          (try have hne := ne_new (n := 0) (c := 0) hKl)
          try dsimp only
          refine hK.out _ _ (HSX.out _ hbX) (fun hHeld => ?_)
          clear hK K
          try simp only [Act.put, List.setIfInBounds_toArray, List.set_cons_zero, List.set_cons_succ]
          refine wpAnyH_ready (rs := [1, 6]) (by kernel_rfl) (by simp) ?_
          refine (AllReadyH.cons (o := ⟨some 75, _, _, _, _, _⟩) rfl (fun K hK => ?_) (AllReadyH.cons (o := ⟨some 80, _, _, _, _, _⟩) rfl (fun K hK => ?_) AllReadyH.nil))
          · (try rw [if_pos (by rfl)])
            go_simp
            refine (HRA.out _ hbX).mono ?_
            rintro e Wn ⟨rfl, hbn⟩
            (try replace hO := Turn.own (Turn.of_below hbn) hO (fun i hi => by have := (hO.lt i hi).2; omega))
            (try replace hKB := Blk.below hKB hbn (Blk.lt hKB))
            replace hbX := hbX.trans (hbn.mono hbX.size)
            try dsimp only
            refine hK.out _ _ (HSX.out _ hbX) (fun hHeld => ?_)
            clear hK K
            try simp only [Act.put, List.setIfInBounds_toArray, List.set_cons_zero, List.set_cons_succ]
            refine wpAnyH_ready (rs := [4, 6]) (by kernel_rfl) (by simp) ?_
            refine (AllReadyH.cons (o := ⟨some 78, _, _, _, _, _⟩) rfl (fun K hK => ?_) (AllReadyH.cons (o := ⟨some 80, _, _, _, _, _⟩) rfl (fun K hK => ?_) AllReadyH.nil))
            · (try rw [if_pos (by rfl)])
              obtain ⟨vn, Wn, hrun, ho, hgr, hv⟩ := app_idsO hbX.size hO (HRL.out _ hbX) (by omega)
              refine oper_append _ _ _ _ rfl _ _ rfl rfl _ _ hrun ?_
              have hbn : Below W8.heap.size W8 Wn := grown_below hbX hgr (fun i hi => (hO.lt i hi).1)
              (try have hKl := Blk.lt hKB)
              (try replace hKB := Blk.grown hKB hgr (fun e => hne _ e.symm rfl))
              (try replace hne := ne_app hne hv hKl)
              have hO := ho
              replace hbX := hbn
              clear hrun ho hgr hv hbn
              try simp only [Act.put, List.setIfInBounds_toArray, List.set_cons_zero, List.set_cons_succ]
              try dsimp only
              refine hK.out _ _ (HSX.out _ hbX) (fun hHeld => ?_)
              clear hK K
              try simp only [Act.put, List.setIfInBounds_toArray, List.set_cons_zero, List.set_cons_succ]
              refine wpAnyH_ready (rs := [6]) (by kernel_rfl) (by simp) ?_
              refine (AllReadyH.cons (o := ⟨some 80, _, _, _, _, _⟩) rfl (fun K hK => ?_) AllReadyH.nil)
              (try rw [if_pos (by rfl)])
              refine wp_build_idc _ rfl fx (by rw [← idc_arr]; rfl) ?_
              first | refine alloc_gen ?_ | refine alloc_genD ?_
              intro Wa hka hba
              have hKB := hka
              have hKW := hbX.size
              (try have hne := ne_old hO)
              (try replace hO := Turn.own (Turn.of_below hba) hO (fun i hi => by have := (hO.lt i hi).2; omega))
              replace hbX : Below W8.heap.size W8 Wa := by first | exact hbX.trans (hba.mono hbX.size) | exact hba
              try dsimp only
              refine hK.out _ _ (HSX.out _ hbX) (fun hHeld => ?_)
              clear hK K
              try simp only [Act.put, List.setIfInBounds_toArray, List.set_cons_zero, List.set_cons_succ]
              refine wpAnyH_ready (rs := [7]) (by kernel_rfl) (by simp) ?_
              refine (AllReadyH.cons (o := ⟨some 81, _, _, _, _, _⟩) rfl (fun K hK => ?_) AllReadyH.nil)
              (try rw [if_pos (by rfl)])
              obtain ⟨vn, Wn, hrun, ho, hgr⟩ := app_one hbX.size hO fx hKB (by omega)
              refine oper_append _ _ _ _ rfl _ _ rfl rfl _ _ hrun ?_
              have hbn : Below W8.heap.size W8 Wn := grown_below hbX hgr (fun i hi => (hO.lt i hi).1)
              have hRd := rd_snoc ho HN1.out hq60
              replace hbX := hbn
              clear hrun ho hgr hbn hO hKB
              try simp only [Act.put, List.setIfInBounds_toArray, List.set_cons_zero, List.set_cons_succ]
              try dsimp only
              refine hK.out _ _ (HSX.out _ hbX) (fun hHeld => ?_)
              clear hK K
              try simp only [Act.put, List.setIfInBounds_toArray, List.set_cons_zero, List.set_cons_succ]
              refine wpAnyH_ready (rs := [8]) (by kernel_rfl) (by simp) ?_
              refine (AllReadyH.cons (o := ⟨some 82, _, _, _, _, _⟩) rfl (fun K hK => ?_) AllReadyH.nil)
              (try rw [if_pos (by rfl)])
              go_simp
              refine (HFX.out _ _ hbX hRd).mono ?_
              rintro e Wn ⟨rfl, hbn⟩
              replace hbX := hbX.trans (hbn.mono hbX.size)
              clear hRd
              try dsimp only
              refine hK.out _ _ (HSX.out _ hbX) (fun hHeld => ?_)
              clear hK K
              try simp only [Act.put, List.setIfInBounds_toArray, List.set_cons_zero, List.set_cons_succ]
              refine wpAnyH_take (i := 9) (oi := ⟨some 83, _, _, _, _, _⟩) (v := ?_) rfl (by kernel_rfl) (by kernel_rfl) (by kernel_rfl) (fun _ _ _ h => h) (Or.inl ⟨by rfl, ?_⟩) (by assumption) ?_
              rotate_left
              · intro w hSw; (try dsimp only at hSw); go_simp; try (with_reducible rfl)
              rotate_left 0
              try simp only [Act.put, List.setIfInBounds_toArray, List.set_cons_zero, List.set_cons_succ]
              refine wpAnyH_take (i := 10) (oi := ⟨some 84, _, _, _, _, _⟩) (v := ?_) rfl (by kernel_rfl) (by kernel_rfl) (by kernel_rfl) (fun _ _ _ h => h) (Or.inl ⟨by rfl, ?_⟩) (by assumption) ?_
              rotate_left
              · intro w hSw; (try dsimp only at hSw); go_simp; try (with_reducible rfl)
              rotate_left 0
              try simp only [Act.put, List.setIfInBounds_toArray, List.set_cons_zero, List.set_cons_succ]
              exact key1 _ _ _ (by kernel_rfl) ⟨_, _, _, _, rfl, hbX⟩
            · (try rw [if_pos (by rfl)])
              refine wp_build_idc _ rfl fx (by rw [← idc_arr]; rfl) ?_
              first | refine alloc_gen ?_ | refine alloc_genD ?_
              intro Wa hka hba
              have hKB := hka
              have hKW := hbX.size
              (try have hne := ne_old hO)
              (try replace hO := Turn.own (Turn.of_below hba) hO (fun i hi => by have := (hO.lt i hi).2; omega))
              replace hbX : Below W8.heap.size W8 Wa := by first | exact hbX.trans (hba.mono hbX.size) | exact hba
              try dsimp only
              refine hK.out _ _ (HSX.out _ hbX) (fun hHeld => ?_)
              clear hK K
              try simp only [Act.put, List.setIfInBounds_toArray, List.set_cons_zero, List.set_cons_succ]
              refine wpAnyH_ready (rs := [4]) (by kernel_rfl) (by simp) ?_
              refine (AllReadyH.cons (o := ⟨some 78, _, _, _, _, _⟩) rfl (fun K hK => ?_) AllReadyH.nil)
              (try rw [if_pos (by rfl)])
              obtain ⟨vn, Wn, hrun, ho, hgr, hv⟩ := app_idsO hbX.size hO (HRL.out _ hbX) (by omega)
              refine oper_append _ _ _ _ rfl _ _ rfl rfl _ _ hrun ?_
              have hbn : Below W8.heap.size W8 Wn := grown_below hbX hgr (fun i hi => (hO.lt i hi).1)
              (try have hKl := Blk.lt hKB)
              (try replace hKB := Blk.grown hKB hgr (fun e => hne _ e.symm rfl))
              (try replace hne := ne_app hne hv hKl)
              have hO := ho
              replace hbX := hbn
              clear hrun ho hgr hv hbn
              try simp only [Act.put, List.setIfInBounds_toArray, List.set_cons_zero, List.set_cons_succ]
              try dsimp only
              refine hK.out _ _ (HSX.out _ hbX) (fun hHeld => ?_)
              clear hK K
              try simp only [Act.put, List.setIfInBounds_toArray, List.set_cons_zero, List.set_cons_succ]
              refine wpAnyH_ready (rs := [7]) (by kernel_rfl) (by simp) ?_
              refine (AllReadyH.cons (o := ⟨some 81, _, _, _, _, _⟩) rfl (fun K hK => ?_) AllReadyH.nil)
              (try rw [if_pos (by rfl)])
              obtain ⟨vn, Wn, hrun, ho, hgr⟩ := app_one hbX.size hO fx hKB (by omega)
              refine oper_append _ _ _ _ rfl _ _ rfl rfl _ _ hrun ?_
              have hbn : Below W8.heap.size W8 Wn := grown_below hbX hgr (fun i hi => (hO.lt i hi).1)
              have hRd := rd_snoc ho HN1.out hq60
              replace hbX := hbn
              clear hrun ho hgr hbn hO hKB
              try simp only [Act.put, List.setIfInBounds_toArray, List.set_cons_zero, List.set_cons_succ]
              try dsimp only
              refine hK.out _ _ (HSX.out _ hbX) (fun hHeld => ?_)
              clear hK K
              try simp only [Act.put, List.setIfInBounds_toArray, List.set_cons_zero, List.set_cons_succ]
              refine wpAnyH_ready (rs := [8]) (by kernel_rfl) (by simp) ?_
              refine (AllReadyH.cons (o := ⟨some 82, _, _, _, _, _⟩) rfl (fun K hK => ?_) AllReadyH.nil)
              (try rw [if_pos (by rfl)])
              go_simp
              refine (HFX.out _ _ hbX hRd).mono ?_
              rintro e Wn ⟨rfl, hbn⟩
              replace hbX := hbX.trans (hbn.mono hbX.size)
              clear hRd
              try dsimp only
              refine hK.out _ _ (HSX.out _ hbX) (fun hHeld => ?_)
              clear hK K
              try simp only [Act.put, List.setIfInBounds_toArray, List.set_cons_zero, List.set_cons_succ]
              refine wpAnyH_take (i := 9) (oi := ⟨some 83, _, _, _, _, _⟩) (v := ?_) rfl (by kernel_rfl) (by kernel_rfl) (by kernel_rfl) (fun _ _ _ h => h) (Or.inl ⟨by rfl, ?_⟩) (by assumption) ?_
              rotate_left
              · intro w hSw; (try dsimp only at hSw); go_simp; try (with_reducible rfl)
              rotate_left 0
              try simp only [Act.put, List.setIfInBounds_toArray, List.set_cons_zero, List.set_cons_succ]
              refine wpAnyH_take (i := 10) (oi := ⟨some 84, _, _, _, _, _⟩) (v := ?_) rfl (by kernel_rfl) (by kernel_rfl) (by kernel_rfl) (fun _ _ _ h => h) (Or.inl ⟨by rfl, ?_⟩) (by assumption) ?_
              rotate_left
              · intro w hSw; (try dsimp only at hSw); go_simp; try (with_reducible rfl)
              rotate_left 0
              try simp only [Act.put, List.setIfInBounds_toArray, List.set_cons_zero, List.set_cons_succ]
              exact key1 _ _ _ (by kernel_rfl) ⟨_, _, _, _, rfl, hbX⟩
          · (try rw [if_pos (by rfl)])
            refine wp_build_idc _ rfl fx (by rw [← idc_arr]; rfl) ?_
            first | refine alloc_gen ?_ | refine alloc_genD ?_
            intro Wa hka hba
            have hKB := hka
            have hKW := hbX.size
            (try have hne := ne_old hO)
            (try replace hO := Turn.own (Turn.of_below hba) hO (fun i hi => by have := (hO.lt i hi).2; omega))
            replace hbX : Below W8.heap.size W8 Wa := by first | exact hbX.trans (hba.mono hbX.size) | exact hba
            try dsimp only
            refine hK.out _ _ (HSX.out _ hbX) (fun hHeld => ?_)
            clear hK K
            try simp only [Act.put, List.setIfInBounds_toArray, List.set_cons_zero, List.set_cons_succ]
            refine wpAnyH_ready (rs := [1]) (by kernel_rfl) (by simp) ?_
            refine (AllReadyH.cons (o := ⟨some 75, _, _, _, _, _⟩) rfl (fun K hK => ?_) AllReadyH.nil)
            (try rw [if_pos (by rfl)])
            go_simp
            refine (HRA.out _ hbX).mono ?_
            rintro e Wn ⟨rfl, hbn⟩
            (try replace hO := Turn.own (Turn.of_below hbn) hO (fun i hi => by have := (hO.lt i hi).2; omega))
            (try replace hKB := Blk.below hKB hbn (Blk.lt hKB))
            replace hbX := hbX.trans (hbn.mono hbX.size)
            try dsimp only
            refine hK.out _ _ (HSX.out _ hbX) (fun hHeld => ?_)
            clear hK K
            try simp only [Act.put, List.setIfInBounds_toArray, List.set_cons_zero, List.set_cons_succ]
            refine wpAnyH_ready (rs := [4]) (by kernel_rfl) (by simp) ?_
            refine (AllReadyH.cons (o := ⟨some 78, _, _, _, _, _⟩) rfl (fun K hK => ?_) AllReadyH.nil)
            (try rw [if_pos (by rfl)])
            obtain ⟨vn, Wn, hrun, ho, hgr, hv⟩ := app_idsO hbX.size hO (HRL.out _ hbX) (by omega)
            refine oper_append _ _ _ _ rfl _ _ rfl rfl _ _ hrun ?_
            have hbn : Below W8.heap.size W8 Wn := grown_below hbX hgr (fun i hi => (hO.lt i hi).1)
            (try have hKl := Blk.lt hKB)
            (try replace hKB := Blk.grown hKB hgr (fun e => hne _ e.symm rfl))
            (try replace hne := ne_app hne hv hKl)
            have hO := ho
            replace hbX := hbn
            clear hrun ho hgr hv hbn
            try simp only [Act.put, List.setIfInBounds_toArray, List.set_cons_zero, List.set_cons_succ]
            try dsimp only
            refine hK.out _ _ (HSX.out _ hbX) (fun hHeld => ?_)
            clear hK K
            try simp only [Act.put, List.setIfInBounds_toArray, List.set_cons_zero, List.set_cons_succ]
            refine wpAnyH_ready (rs := [7]) (by kernel_rfl) (by simp) ?_
            refine (AllReadyH.cons (o := ⟨some 81, _, _, _, _, _⟩) rfl (fun K hK => ?_) AllReadyH.nil)
            (try rw [if_pos (by rfl)])
            obtain ⟨vn, Wn, hrun, ho, hgr⟩ := app_one hbX.size hO fx hKB (by omega)
            refine oper_append _ _ _ _ rfl _ _ rfl rfl _ _ hrun ?_
            have hbn : Below W8.heap.size W8 Wn := grown_below hbX hgr (fun i hi => (hO.lt i hi).1)
            have hRd := rd_snoc ho HN1.out hq60
            replace hbX := hbn
            clear hrun ho hgr hbn hO hKB
            try simp only [Act.put, List.setIfInBounds_toArray, List.set_cons_zero, List.set_cons_succ]
            try dsimp only
            refine hK.out _ _ (HSX.out _ hbX) (fun hHeld => ?_)
            clear hK K
            try simp only [Act.put, List.setIfInBounds_toArray, List.set_cons_zero, List.set_cons_succ]
            refine wpAnyH_ready (rs := [8]) (by kernel_rfl) (by simp) ?_
            refine (AllReadyH.cons (o := ⟨some 82, _, _, _, _, _⟩) rfl (fun K hK => ?_) AllReadyH.nil)
            (try rw [if_pos (by rfl)])
            go_simp
            refine (HFX.out _ _ hbX hRd).mono ?_
            rintro e Wn ⟨rfl, hbn⟩
            replace hbX := hbX.trans (hbn.mono hbX.size)
            clear hRd
            try dsimp only
            refine hK.out _ _ (HSX.out _ hbX) (fun hHeld => ?_)
            clear hK K
            try simp only [Act.put, List.setIfInBounds_toArray, List.set_cons_zero, List.set_cons_succ]
            refine wpAnyH_take (i := 9) (oi := ⟨some 83, _, _, _, _, _⟩) (v := ?_) rfl (by kernel_rfl) (by kernel_rfl) (by kernel_rfl) (fun _ _ _ h => h) (Or.inl ⟨by rfl, ?_⟩) (by assumption) ?_
            rotate_left
            · intro w hSw; (try dsimp only at hSw); go_simp; try (with_reducible rfl)
            rotate_left 0
            try simp only [Act.put, List.setIfInBounds_toArray, List.set_cons_zero, List.set_cons_succ]
            refine wpAnyH_take (i := 10) (oi := ⟨some 84, _, _, _, _, _⟩) (v := ?_) rfl (by kernel_rfl) (by kernel_rfl) (by kernel_rfl) (fun _ _ _ h => h) (Or.inl ⟨by rfl, ?_⟩) (by assumption) ?_
            rotate_left
            · intro w hSw; (try dsimp only at hSw); go_simp; try (with_reducible rfl)
            rotate_left 0
            try simp only [Act.put, List.setIfInBounds_toArray, List.set_cons_zero, List.set_cons_succ]
            exact key1 _ _ _ (by kernel_rfl) ⟨_, _, _, _, rfl, hbX⟩
        · (try rw [if_pos (by rfl)])
          refine wp_build_idc _ rfl fx (by rw [← idc_arr]; rfl) ?_
          first | refine alloc_gen ?_ | refine alloc_genD ?_
          intro Wa hka hba
          have hKB := hka
          have hKW := hbX.size
          (try have hne := ne_old hO)
          (try replace hO := Turn.own (Turn.of_below hba) hO (fun i hi => by have := (hO.lt i hi).2; omega))
          replace hbX : Below W8.heap.size W8 Wa := by first | exact hbX.trans (hba.mono hbX.size) | exact hba
          try dsimp only
          refine hK.out _ _ (HSX.out _ hbX) (fun hHeld => ?_)
          clear hK K
          try simp only [Act.put, List.setIfInBounds_toArray, List.set_cons_zero, List.set_cons_succ]
          refine wpAnyH_ready (rs := [1, 2]) (by kernel_rfl) (by simp) ?_
          refine (AllReadyH.cons (o := ⟨some 75, _, _, _, _, _⟩) rfl (fun K hK => ?_) (AllReadyH.cons (o := ⟨some 76, _, _, _, _, _⟩) rfl (fun K hK => ?_) AllReadyH.nil))
          · (try rw [if_pos (by rfl)])
            go_simp
            refine (HRA.out _ hbX).mono ?_
            rintro e Wn ⟨rfl, hbn⟩
            (try replace hO := Turn.own (Turn.of_below hbn) hO (fun i hi => by have := (hO.lt i hi).2; omega))
            (try replace hKB := Blk.below hKB hbn (Blk.lt hKB))
            replace hbX := hbX.trans (hbn.mono hbX.size)
            try dsimp only
            refine hK.out _ _ (HSX.out _ hbX) (fun hHeld => ?_)
            clear hK K
            try simp only [Act.put, List.setIfInBounds_toArray, List.set_cons_zero, List.set_cons_succ]
            refine wpAnyH_ready (rs := [2]) (by kernel_rfl) (by simp) ?_
            refine (AllReadyH.cons (o := ⟨some 76, _, _, _, _, _⟩) rfl (fun K hK => ?_) AllReadyH.nil)
            (try rw [if_pos (by rfl)])
            go_simp
            first | refine alloc_gen ?_ | refine alloc_genD ?_
            intro Wa hka hba
            have hb0 := hbX.size
            have hO := own_empty hka (B := W8.heap.size) (by first | exact hb0 | exact Nat.le_refl _)
            (try have hKl := Blk.lt hKB)
            (try replace hKB := Blk.below hKB hba hKl)
            replace hbX : Below W8.heap.size W8 Wa := by first | exact hbX.trans (hba.mono hbX.size) | exact hba
            (try have hne := ne_new (n := 0) (c := 0) hKl)
            try dsimp only
            refine hK.out _ _ (HSX.out _ hbX) (fun hHeld => ?_)
            clear hK K
            try simp only [Act.put, List.setIfInBounds_toArray, List.set_cons_zero, List.set_cons_succ]
            refine wpAnyH_ready (rs := [4]) (by kernel_rfl) (by simp) ?_
            refine (AllReadyH.cons (o := ⟨some 78, _, _, _, _, _⟩) rfl (fun K hK => ?_) AllReadyH.nil)
            (try rw [if_pos (by rfl)])
            obtain ⟨vn, Wn, hrun, ho, hgr, hv⟩ := app_idsO hbX.size hO (HRL.out _ hbX) (by omega)
            refine oper_append _ _ _ _ rfl _ _ rfl rfl _ _ hrun ?_
            have hbn : Below W8.heap.size W8 Wn := grown_below hbX hgr (fun i hi => (hO.lt i hi).1)
            (try have hKl := Blk.lt hKB)
            (try replace hKB := Blk.grown hKB hgr (fun e => hne _ e.symm rfl))
            (try replace hne := ne_app hne hv hKl)
            have hO := ho
            replace hbX := hbn
            clear hrun ho hgr hv hbn
            try simp only [Act.put, List.setIfInBounds_toArray, List.set_cons_zero, List.set_cons_succ]
            try dsimp only
            refine hK.out _ _ (HSX.out _ hbX) (fun hHeld => ?_)
            clear hK K
            try simp only [Act.put, List.setIfInBounds_toArray, List.set_cons_zero, List.set_cons_succ]
            refine wpAnyH_ready (rs := [7]) (by kernel_rfl) (by simp) ?_
            refine (AllReadyH.cons (o := ⟨some 81, _, _, _, _, _⟩) rfl (fun K hK => ?_) AllReadyH.nil)
            (try rw [if_pos (by rfl)])
            obtain ⟨vn, Wn, hrun, ho, hgr⟩ := app_one hbX.size hO fx hKB (by omega)
            refine oper_append _ _ _ _ rfl _ _ rfl rfl _ _ hrun ?_
            have hbn : Below W8.heap.size W8 Wn := grown_below hbX hgr (fun i hi => (hO.lt i hi).1)
            have hRd := rd_snoc ho HN1.out hq60
            replace hbX := hbn
            clear hrun ho hgr hbn hO hKB
            try simp only [Act.put, List.setIfInBounds_toArray, List.set_cons_zero, List.set_cons_succ]
            try dsimp only
            refine hK.out _ _ (HSX.out _ hbX) (fun hHeld => ?_)
            clear hK K
            try simp only [Act.put, List.setIfInBounds_toArray, List.set_cons_zero, List.set_cons_succ]
            refine wpAnyH_ready (rs := [8]) (by kernel_rfl) (by simp) ?_
            refine (AllReadyH.cons (o := ⟨some 82, _, _, _, _, _⟩) rfl (fun K hK => ?_) AllReadyH.nil)
            (try rw [if_pos (by rfl)])
            go_simp
            refine (HFX.out _ _ hbX hRd).mono ?_
            rintro e Wn ⟨rfl, hbn⟩
            replace hbX := hbX.trans (hbn.mono hbX.size)
            clear hRd
            try dsimp only
            refine hK.out _ _ (HSX.out _ hbX) (fun hHeld => ?_)
            clear hK K
            try simp only [Act.put, List.setIfInBounds_toArray, List.set_cons_zero, List.set_cons_succ]
            refine wpAnyH_take (i := 9) (oi := ⟨some 83, _, _, _, _, _⟩) (v := ?_) rfl (by kernel_rfl) (by kernel_rfl) (by kernel_rfl) (fun _ _ _ h => h) (Or.inl ⟨by rfl, ?_⟩) (by assumption) ?_
            rotate_left
            · intro w hSw; (try dsimp only at hSw); go_simp; try (with_reducible rfl)
            rotate_left 0
            try simp only [Act.put, List.setIfInBounds_toArray, List.set_cons_zero, List.set_cons_succ]
            refine wpAnyH_take (i := 10) (oi := ⟨some 84, _, _, _, _, _⟩) (v := ?_) rfl (by kernel_rfl) (by kernel_rfl) (by kernel_rfl) (fun _ _ _ h => h) (Or.inl ⟨by rfl, ?_⟩) (by assumption) ?_
            rotate_left
            · intro w hSw; (try dsimp only at hSw); go_simp; try (with_reducible rfl)
            rotate_left 0
            try simp only [Act.put, List.setIfInBounds_toArray, List.set_cons_zero, List.set_cons_succ]
            exact key1 _ _ _ (by kernel_rfl) ⟨_, _, _, _, rfl, hbX⟩
          · (try rw [if_pos (by rfl)])
            go_simp
            first | refine alloc_gen ?_ | refine alloc_genD ?_
            intro Wa hka hba
            have hb0 := hbX.size
            have hO := own_empty hka (B := W8.heap.size) (by first | exact hb0 | exact Nat.le_refl _)
            (try have hKl := Blk.lt hKB)
            (try replace hKB := Blk.below hKB hba hKl)
            replace hbX : Below W8.heap.size W8 Wa := by first | exact hbX.trans (hba.mono hbX.size) | exact hba
            (try have hne := ne_new (n := 0) (c := 0) hKl)
            try dsimp only
            refine hK.out _ _ (HSX.out _ hbX) (fun hHeld => ?_)
            clear hK K
            try simp only [Act.put, List.setIfInBounds_toArray, List.set_cons_zero, List.set_cons_succ]
            refine wpAnyH_ready (rs := [1]) (by kernel_rfl) (by simp) ?_
            refine (AllReadyH.cons (o := ⟨some 75, _, _, _, _, _⟩) rfl (fun K hK => ?_) AllReadyH.nil)
            (try rw [if_pos (by rfl)])
            go_simp
            refine (HRA.out _ hbX).mono ?_
            rintro e Wn ⟨rfl, hbn⟩
            (try replace hO := Turn.own (Turn.of_below hbn) hO (fun i hi => by have := (hO.lt i hi).2; omega))
            (try replace hKB := Blk.below hKB hbn (Blk.lt hKB))
            replace hbX := hbX.trans (hbn.mono hbX.size)
            try dsimp only
            refine hK.out _ _ (HSX.out _ hbX) (fun hHeld => ?_)
            clear hK K
            try simp only [Act.put, List.setIfInBounds_toArray, List.set_cons_zero, List.set_cons_succ]
            refine wpAnyH_ready (rs := [4]) (by kernel_rfl) (by simp) ?_
            refine (AllReadyH.cons (o := ⟨some 78, _, _, _, _, _⟩) rfl (fun K hK => ?_) AllReadyH.nil)
            (try rw [if_pos (by rfl)])
            obtain ⟨vn, Wn, hrun, ho, hgr, hv⟩ := app_idsO hbX.size hO (HRL.out _ hbX) (by omega)
            refine oper_append _ _ _ _ rfl _ _ rfl rfl _ _ hrun ?_
            have hbn : Below W8.heap.size W8 Wn := grown_below hbX hgr (fun i hi => (hO.lt i hi).1)
            (try have hKl := Blk.lt hKB)
            (try replace hKB := Blk.grown hKB hgr (fun e => hne _ e.symm rfl))
            (try replace hne := ne_app hne hv hKl)
            have hO := ho
            replace hbX := hbn
            clear hrun ho hgr hv hbn
            try simp only [Act.put, List.setIfInBounds_toArray, List.set_cons_zero, List.set_cons_succ]
            try dsimp only
            refine hK.out _ _ (HSX.out _ hbX) (fun hHeld => ?_)
            clear hK K
            try simp only [Act.put, List.setIfInBounds_toArray, List.set_cons_zero, List.set_cons_succ]
            refine wpAnyH_ready (rs := [7]) (by kernel_rfl) (by simp) ?_
            refine (AllReadyH.cons (o := ⟨some 81, _, _, _, _, _⟩) rfl (fun K hK => ?_) AllReadyH.nil)
            (try rw [if_pos (by rfl)])
            obtain ⟨vn, Wn, hrun, ho, hgr⟩ := app_one hbX.size hO fx hKB (by omega)
            refine oper_append _ _ _ _ rfl _ _ rfl rfl _ _ hrun ?_
            have hbn : Below W8.heap.size W8 Wn := grown_below hbX hgr (fun i hi => (hO.lt i hi).1)
            have hRd := rd_snoc ho HN1.out hq60
            replace hbX := hbn
            clear hrun ho hgr hbn hO hKB
            try simp only [Act.put, List.setIfInBounds_toArray, List.set_cons_zero, List.set_cons_succ]
            try dsimp only
            refine hK.out _ _ (HSX.out _ hbX) (fun hHeld => ?_)
            clear hK K
            try simp only [Act.put, List.setIfInBounds_toArray, List.set_cons_zero, List.set_cons_succ]
            refine wpAnyH_ready (rs := [8]) (by kernel_rfl) (by simp) ?_
            refine (AllReadyH.cons (o := ⟨some 82, _, _, _, _, _⟩) rfl (fun K hK => ?_) AllReadyH.nil)
            (try rw [if_pos (by rfl)])
            go_simp
            refine (HFX.out _ _ hbX hRd).mono ?_
            rintro e Wn ⟨rfl, hbn⟩
            replace hbX := hbX.trans (hbn.mono hbX.size)
            clear hRd
            try dsimp only
            refine hK.out _ _ (HSX.out _ hbX) (fun hHeld => ?_)
            clear hK K
            try simp only [Act.put, List.setIfInBounds_toArray, List.set_cons_zero, List.set_cons_succ]
            refine wpAnyH_take (i := 9) (oi := ⟨some 83, _, _, _, _, _⟩) (v := ?_) rfl (by kernel_rfl) (by kernel_rfl) (by kernel_rfl) (fun _ _ _ h => h) (Or.inl ⟨by rfl, ?_⟩) (by assumption) ?_
            rotate_left
            · intro w hSw; (try dsimp only at hSw); go_simp; try (with_reducible rfl)
            rotate_left 0
            try simp only [Act.put, List.setIfInBounds_toArray, List.set_cons_zero, List.set_cons_succ]
            refine wpAnyH_take (i := 10) (oi := ⟨some 84, _, _, _, _, _⟩) (v := ?_) rfl (by kernel_rfl) (by kernel_rfl) (by kernel_rfl) (fun _ _ _ h => h) (Or.inl ⟨by rfl, ?_⟩) (by assumption) ?_
            rotate_left
            · intro w hSw; (try dsimp only at hSw); go_simp; try (with_reducible rfl)
            rotate_left 0
            try simp only [Act.put, List.setIfInBounds_toArray, List.set_cons_zero, List.set_cons_succ]
            exact key1 _ _ _ (by kernel_rfl) ⟨_, _, _, _, rfl, hbX⟩
      case key1 =>
        clear hHeld hbX
        rintro a W ⟨v76, v78, v80, v81, rfl, hbX⟩
        have hHeld := HSX.out _ hbX
        refine with_key 7 #[true, true, true, true, true, true, true, true, true, true, true, true, true, true, true, true, true, true, true, true, true, true, true, false, false, false, false, false, false, false] (fun a W => ∃ v76 v78 v80 v81 v87 v89 v91 v92 : Value, a = { tmps := #[.slice A q c, .agg (arr 32 fun i => bv (fx i)), .agg (arr 32 fun i => bv (fy i)), undef, .pointer (some ⟨w.heap.size, 0, none⟩), .pointer (some ⟨w.heap.size + 1, 0, none⟩), .bool false, .pointer (some ⟨g, 0, none⟩), .slice At k ct, .pointer (some ⟨ga, 0, none⟩), .int .i64 0, .pointer (some ⟨gb, 0, none⟩), .int .i64 0, u13, .bool true, .bool false, .slice A n c, .slice A q c, .slice A q c, .pointer (some ⟨g, 0, none⟩), .pointer (some ⟨g, 0, none⟩), .bool false, .pointer (some ⟨g, 0, none⟩), .slice At k ct, .tuple #[.pointer (some ⟨ga, 0, none⟩), .int .i64 0], .slice A q c, .int .i64 (q : Int), .slice At k ct, .tuple #[.pointer (some ⟨ga, 0, none⟩), .int .i64 0], .pointer (some ⟨ga, 0, none⟩), .int .i64 0, .tuple #[.pointer (some ⟨gb, 0, none⟩), .int .i64 0], .slice A q c, .int .i64 (q : Int), .slice At k ct, .tuple #[.pointer (some ⟨gb, 0, none⟩), .int .i64 0], .pointer (some ⟨gb, 0, none⟩), .int .i64 0, .pointer (some ⟨ga, 0, none⟩), .bool false, .bool false, .pointer (some ⟨gb, 0, none⟩), .bool false, .bool false, .bool false, .int .i64 0, .bool false, .bool false, .bool false, .int .i64 0, .bool false, .bool false, .slice At k ct, .int .i64 (k : Int), .int .i64 (k : Int), .bool false, u56, u57, u58, u59, u60, u61, u62, u63, u64, u65, .pointer (some ⟨ga, 0, none⟩), .agg (arr 32 fun i => bv (fx i)), .slice (some ⟨wr.heap.size, 0, none⟩) 1 1, .int .i64 0, .pointer (some ⟨gb, 0, none⟩), .agg (arr 32 fun i => bv (fy i)), .slice (some ⟨W7.heap.size, 0, none⟩) 1 1, .int .i64 0, .pointer (some ⟨ga, 0, none⟩), .agg (arr 32 fun i => bv (mth (l1 ++ [fx]) i)), v76, .slice A q c, v78, .agg (arr 32 fun i => bv (fx i)), v80, v81, .agg (arr 32 fun i => bv (mth (l1 ++ [fx]) i)), .bool true, .bool true, .pointer (some ⟨gb, 0, none⟩), .agg (arr 32 fun i => bv (mth (l1 ++ [fy]) i)), v87, .slice A q c, v89, .agg (arr 32 fun i => bv (fy i)), v91, v92, .agg (arr 32 fun i => bv (mth (l1 ++ [fy]) i)), .bool true, .bool true, .bool true, undef, undef, undef, undef, undef, undef], defers := [] } ∧ Below W8.heap.size W8 W) ?key2 (fun key2 => ?main2)
        case main2 =>
          refine wpAnyH_take (i := 11) (oi := ⟨some 85, _, _, _, _, _⟩) (v := ?_) rfl (by kernel_rfl) (by kernel_rfl) (by kernel_rfl) (fun _ _ _ h => h) (Or.inl ⟨by rfl, ?_⟩) (by assumption) ?_
          rotate_left
          · intro w hSw; (try dsimp only at hSw); go_simp; try (with_reducible rfl)
          rotate_left 0
          try simp only [Act.put, List.setIfInBounds_toArray, List.set_cons_zero, List.set_cons_succ]
          refine wpAnyH_take (i := 14) (oi := ⟨some 88, _, _, _, _, _⟩) (v := ?_) rfl (by kernel_rfl) (by kernel_rfl) (by kernel_rfl) (fun _ _ _ h => h) (Or.inl ⟨by rfl, ?_⟩) (by assumption) ?_
          rotate_left
          · intro w hSw; (try dsimp only at hSw); go_simp; try (with_reducible rfl)
          rotate_left 0
          try simp only [Act.put, List.setIfInBounds_toArray, List.set_cons_zero, List.set_cons_succ]
          refine wpAnyH_take (i := 16) (oi := ⟨some 90, _, _, _, _, _⟩) (v := (.agg (arr 32 fun i => bv (fy i)))) rfl (by kernel_rfl) (by kernel_rfl) (by kernel_rfl) (fun _ _ _ h => h) (yieldsIf_load_at (by rfl) 30 _ rfl ⟨w.heap.size + 1, 0, none⟩ rfl 32 (fun i => bv (fy i)) 5 (fun _ hS i hi => by rw [add_zero_block, hS.2.cell, arr_get, if_pos hi]) Tryd.underlying30 (by kernel_rfl)) (by assumption) ?_
          try simp only [Act.put, List.setIfInBounds_toArray, List.set_cons_zero, List.set_cons_succ]
          refine wpAnyH_ready (rs := [12, 13, 17]) (by kernel_rfl) (by simp) ?_
          refine (AllReadyH.cons (o := ⟨some 86, _, _, _, _, _⟩) rfl (fun K hK => ?_) (AllReadyH.cons (o := ⟨some 87, _, _, _, _, _⟩) rfl (fun K hK => ?_) (AllReadyH.cons (o := ⟨some 91, _, _, _, _, _⟩) rfl (fun K hK => ?_) AllReadyH.nil)))
          · (try rw [if_pos (by rfl)])
            go_simp
            refine (HRB.out _ hbX).mono ?_
            rintro e Wn ⟨rfl, hbn⟩
            (try replace hO := Turn.own (Turn.of_below hbn) hO (fun i hi => by have := (hO.lt i hi).2; omega))
            (try replace hKB := Blk.below hKB hbn (Blk.lt hKB))
            replace hbX := hbX.trans (hbn.mono hbX.size)
            try dsimp only
            refine hK.out _ _ (HSX.out _ hbX) (fun hHeld => ?_)
            clear hK K
            try simp only [List.setIfInBounds_toArray, List.set_cons_zero, List.set_cons_succ]
            refine wpAnyH_ready (rs := [13, 17]) (by kernel_rfl) (by simp) ?_
            refine (AllReadyH.cons (o := ⟨some 87, _, _, _, _, _⟩) rfl (fun K hK => ?_) (AllReadyH.cons (o := ⟨some 91, _, _, _, _, _⟩) rfl (fun K hK => ?_) AllReadyH.nil))
            · (try rw [if_pos (by rfl)])
              go_simp
              first | refine alloc_gen ?_ | refine alloc_genD ?_
              intro Wa hka hba
              have hb0 := hbX.size
              have hO := own_empty hka (B := W8.heap.size) (by first | exact hb0 | exact Nat.le_refl _)
              (try have hKl := Blk.lt hKB)
              (try replace hKB := Blk.below hKB hba hKl)
              replace hbX : Below W8.heap.size W8 Wa := by first | exact hbX.trans (hba.mono hbX.size) | exact hba
              (try have hne := ne_new (n := 0) (c := 0) hKl)
              try dsimp only
              refine hK.out _ _ (HSX.out _ hbX) (fun hHeld => ?_)
              clear hK K
              try simp only [List.setIfInBounds_toArray, List.set_cons_zero, List.set_cons_succ]
              refine wpAnyH_ready (rs := [15, 17]) (by kernel_rfl) (by simp) ?_
              refine (AllReadyH.cons (o := ⟨some 89, _, _, _, _, _⟩) rfl (fun K hK => ?_) (AllReadyH.cons (o := ⟨some 91, _, _, _, _, _⟩) rfl (fun K hK => ?_) AllReadyH.nil))
              · (try rw [if_pos (by rfl)])
                obtain ⟨vn, Wn, hrun, ho, hgr, hv⟩ := app_idsO hbX.size hO (HRL.out _ hbX) (by omega)
                refine oper_append _ _ _ _ rfl _ _ rfl rfl _ _ hrun ?_
                have hbn : Below W8.heap.size W8 Wn := grown_below hbX hgr (fun i hi => (hO.lt i hi).1)
                (try have hKl := Blk.lt hKB)
                (try replace hKB := Blk.grown hKB hgr (fun e => hne _ e.symm rfl))
                (try replace hne := ne_app hne hv hKl)
                have hO := ho
                replace hbX := hbn
                clear hrun ho hgr hv hbn
                try simp only [Act.put, List.setIfInBounds_toArray, List.set_cons_zero, List.set_cons_succ]
                try dsimp only
                refine hK.out _ _ (HSX.out _ hbX) (fun hHeld => ?_)
                clear hK K
                try simp only [List.setIfInBounds_toArray, List.set_cons_zero, List.set_cons_succ]
                refine wpAnyH_ready (rs := [17]) (by kernel_rfl) (by simp) ?_
                refine (AllReadyH.cons (o := ⟨some 91, _, _, _, _, _⟩) rfl (fun K hK => ?_) AllReadyH.nil)
                (try rw [if_pos (by rfl)])
                refine wp_build_idc _ rfl fy (by rw [← idc_arr]; rfl) ?_
                first | refine alloc_gen ?_ | refine alloc_genD ?_
                intro Wa hka hba
                have hKB := hka
                have hKW := hbX.size
                (try have hne := ne_old hO)
                (try replace hO := Turn.own (Turn.of_below hba) hO (fun i hi => by have := (hO.lt i hi).2; omega))
                replace hbX : Below W8.heap.size W8 Wa := by first | exact hbX.trans (hba.mono hbX.size) | exact hba
                try dsimp only
                refine hK.out _ _ (HSX.out _ hbX) (fun hHeld => ?_)
                clear hK K
                try simp only [Act.put, List.setIfInBounds_toArray, List.set_cons_zero, List.set_cons_succ]
                refine wpAnyH_ready (rs := [18]) (by kernel_rfl) (by simp) ?_
                refine (AllReadyH.cons (o := ⟨some 92, _, _, _, _, _⟩) rfl (fun K hK => ?_) AllReadyH.nil)
                (try rw [if_pos (by rfl)])
                obtain ⟨vn, Wn, hrun, ho, hgr⟩ := app_one hbX.size hO fy hKB (by omega)
                refine oper_append _ _ _ _ rfl _ _ rfl rfl _ _ hrun ?_
                have hbn : Below W8.heap.size W8 Wn := grown_below hbX hgr (fun i hi => (hO.lt i hi).1)
                have hRd := rd_snoc ho HN1.out hq60
                replace hbX := hbn
                clear hrun ho hgr hbn hO hKB
                try simp only [Act.put, List.setIfInBounds_toArray, List.set_cons_zero, List.set_cons_succ]
                try dsimp only
                refine hK.out _ _ (HSX.out _ hbX) (fun hHeld => ?_)
                clear hK K
                try simp only [List.setIfInBounds_toArray, List.set_cons_zero, List.set_cons_succ]
                refine wpAnyH_ready (rs := [19]) (by kernel_rfl) (by simp) ?_
                refine (AllReadyH.cons (o := ⟨some 93, _, _, _, _, _⟩) rfl (fun K hK => ?_) AllReadyH.nil)
                (try rw [if_pos (by rfl)])
                go_simp
                refine (HFY.out _ _ hbX hRd).mono ?_
                rintro e Wn ⟨rfl, hbn⟩
                replace hbX := hbX.trans (hbn.mono hbX.size)
                clear hRd
                try dsimp only
                refine hK.out _ _ (HSX.out _ hbX) (fun hHeld => ?_)
                clear hK K
                try simp only [List.setIfInBounds_toArray, List.set_cons_zero, List.set_cons_succ]
                refine wpAnyH_take (i := 20) (oi := ⟨some 94, _, _, _, _, _⟩) (v := ?_) rfl (by kernel_rfl) (by kernel_rfl) (by kernel_rfl) (fun _ _ _ h => h) (Or.inl ⟨by rfl, ?_⟩) (by assumption) ?_
                rotate_left
                · intro w hSw; (try dsimp only at hSw); go_simp; try (with_reducible rfl)
                rotate_left 0
                try simp only [Act.put, List.setIfInBounds_toArray, List.set_cons_zero, List.set_cons_succ]
                refine wpAnyH_take (i := 21) (oi := ⟨some 95, _, _, _, _, _⟩) (v := ?_) rfl (by kernel_rfl) (by kernel_rfl) (by kernel_rfl) (fun _ _ _ h => h) (Or.inl ⟨by rfl, ?_⟩) (by assumption) ?_
                rotate_left
                · intro w hSw; (try dsimp only at hSw); go_simp; try (with_reducible rfl)
                rotate_left 0
                try simp only [Act.put, List.setIfInBounds_toArray, List.set_cons_zero, List.set_cons_succ]
                refine wpAnyH_take (i := 22) (oi := ⟨some 96, _, _, _, _, _⟩) (v := ?_) rfl (by kernel_rfl) (by kernel_rfl) (by kernel_rfl) (fun _ _ _ h => h) (Or.inl ⟨by rfl, ?_⟩) (by assumption) ?_
                rotate_left
                · intro w hSw; (try dsimp only at hSw); go_simp; try (with_reducible rfl)
                rotate_left 0
                try simp only [Act.put, List.setIfInBounds_toArray, List.set_cons_zero, List.set_cons_succ]
                exact key2 _ _ _ (by kernel_rfl) ⟨_, _, _, _, _, _, _, _, rfl, hbX⟩
              · (try rw [if_pos (by rfl)])
                refine wp_build_idc _ rfl fy (by rw [← idc_arr]; rfl) ?_
                first | refine alloc_gen ?_ | refine alloc_genD ?_
                intro Wa hka hba
                have hKB := hka
                have hKW := hbX.size
                (try have hne := ne_old hO)
                (try replace hO := Turn.own (Turn.of_below hba) hO (fun i hi => by have := (hO.lt i hi).2; omega))
                replace hbX : Below W8.heap.size W8 Wa := by first | exact hbX.trans (hba.mono hbX.size) | exact hba
                try dsimp only
                refine hK.out _ _ (HSX.out _ hbX) (fun hHeld => ?_)
                clear hK K
                try simp only [Act.put, List.setIfInBounds_toArray, List.set_cons_zero, List.set_cons_succ]
                refine wpAnyH_ready (rs := [15]) (by kernel_rfl) (by simp) ?_
                refine (AllReadyH.cons (o := ⟨some 89, _, _, _, _, _⟩) rfl (fun K hK => ?_) AllReadyH.nil)
                (try rw [if_pos (by rfl)])
                obtain ⟨vn, Wn, hrun, ho, hgr, hv⟩ := app_idsO hbX.size hO (HRL.out _ hbX) (by omega)
                refine oper_append _ _ _ _ rfl _ _ rfl rfl _ _ hrun ?_
                have hbn : Below W8.heap.size W8 Wn := grown_below hbX hgr (fun i hi => (hO.lt i hi).1)
                (try have hKl := Blk.lt hKB)
                (try replace hKB := Blk.grown hKB hgr (fun e => hne _ e.symm rfl))
                (try replace hne := ne_app hne hv hKl)
                have hO := ho
                replace hbX := hbn
                clear hrun ho hgr hv hbn
                try simp only [Act.put, List.setIfInBounds_toArray, List.set_cons_zero, List.set_cons_succ]
                try dsimp only
                refine hK.out _ _ (HSX.out _ hbX) (fun hHeld => ?_)
                clear hK K
                try simp only [List.setIfInBounds_toArray, List.set_cons_zero, List.set_cons_succ]
                refine wpAnyH_ready (rs := [18]) (by kernel_rfl) (by simp) ?_
                refine (AllReadyH.cons (o := ⟨some 92, _, _, _, _, _⟩) rfl (fun K hK => ?_) AllReadyH.nil)
                (try rw [if_pos (by rfl)])
                obtain ⟨vn, Wn, hrun, ho, hgr⟩ := app_one hbX.size hO fy hKB (by omega)
                refine oper_append _ _ _ _ rfl _ _ rfl rfl _ _ hrun ?_
                have hbn : Below W8.heap.size W8 Wn := grown_below hbX hgr (fun i hi => (hO.lt i hi).1)
                have hRd := rd_snoc ho HN1.out hq60
                replace hbX := hbn
                clear hrun ho hgr hbn hO hKB
                try simp only [Act.put, List.setIfInBounds_toArray, List.set_cons_zero, List.set_cons_succ]
                try dsimp only
                refine hK.out _ _ (HSX.out _ hbX) (fun hHeld => ?_)
                clear hK K
                try simp only [List.setIfInBounds_toArray, List.set_cons_zero, List.set_cons_succ]
                refine wpAnyH_ready (rs := [19]) (by kernel_rfl) (by simp) ?_
                refine (AllReadyH.cons (o := ⟨some 93, _, _, _, _, _⟩) rfl (fun K hK => ?_) AllReadyH.nil)
                (try rw [if_pos (by rfl)])
                go_simp
                refine (HFY.out _ _ hbX hRd).mono ?_
                rintro e Wn ⟨rfl, hbn⟩
                replace hbX := hbX.trans (hbn.mono hbX.size)
                clear hRd
                try dsimp only
                refine hK.out _ _ (HSX.out _ hbX) (fun hHeld => ?_)
                clear hK K
                try simp only [List.setIfInBounds_toArray, List.set_cons_zero, List.set_cons_succ]
                refine wpAnyH_take (i := 20) (oi := ⟨some 94, _, _, _, _, _⟩) (v := ?_) rfl (by kernel_rfl) (by kernel_rfl) (by kernel_rfl) (fun _ _ _ h => h) (Or.inl ⟨by rfl, ?_⟩) (by assumption) ?_
                rotate_left
                · intro w hSw; (try dsimp only at hSw); go_simp; try (with_reducible rfl)
                rotate_left 0
                try simp only [Act.put, List.setIfInBounds_toArray, List.set_cons_zero, List.set_cons_succ]
                refine wpAnyH_take (i := 21) (oi := ⟨some 95, _, _, _, _, _⟩) (v := ?_) rfl (by kernel_rfl) (by kernel_rfl) (by kernel_rfl) (fun _ _ _ h => h) (Or.inl ⟨by rfl, ?_⟩) (by assumption) ?_
                rotate_left
                · intro w hSw; (try dsimp only at hSw); go_simp; try (with_reducible rfl)
                rotate_left 0
                try simp only [Act.put, List.setIfInBounds_toArray, List.set_cons_zero, List.set_cons_succ]
                refine wpAnyH_take (i := 22) (oi := ⟨some 96, _, _, _, _, _⟩) (v := ?_) rfl (by kernel_rfl) (by kernel_rfl) (by kernel_rfl) (fun _ _ _ h => h) (Or.inl ⟨by rfl, ?_⟩) (by assumption) ?_
                rotate_left
                · intro w hSw; (try dsimp only at hSw); go_simp; try (with_reducible rfl)
                rotate_left 0
                try simp only [Act.put, List.setIfInBounds_toArray, List.set_cons_zero, List.set_cons_succ]
                exact key2 _ _ _ (by kernel_rfl) ⟨_, _, _, _, _, _, _, _, rfl, hbX⟩
            · (try rw [if_pos (by rfl)])
              refine wp_build_idc _ rfl fy (by rw [← idc_arr]; rfl) ?_
              first | refine alloc_gen ?_ | refine alloc_genD ?_
              intro Wa hka hba
              have hKB := hka
              have hKW := hbX.size
              (try have hne := ne_old hO)
              (try replace hO := Turn.own (Turn.of_below hba) hO (fun i hi => by have := (hO.lt i hi).2; omega))
              replace hbX : Below W8.heap.size W8 Wa := by first | exact hbX.trans (hba.mono hbX.size) | exact hba
              try dsimp only
              refine hK.out _ _ (HSX.out _ hbX) (fun hHeld => ?_)
              clear hK K
              try simp only [Act.put, List.setIfInBounds_toArray, List.set_cons_zero, List.set_cons_succ]
              refine wpAnyH_ready (rs := [13]) (by kernel_rfl) (by simp) ?_
              refine (AllReadyH.cons (o := ⟨some 87, _, _, _, _, _⟩) rfl (fun K hK => ?_) AllReadyH.nil)
              (try rw [if_pos (by rfl)])
              go_simp
              first | refine alloc_gen ?_ | refine alloc_genD ?_
              intro Wa hka hba
              have hb0 := hbX.size
              have hO := own_empty hka (B := W8.heap.size) (by first | exact hb0 | exact Nat.le_refl _)
              (try have hKl := Blk.lt hKB)
              (try replace hKB := Blk.below hKB hba hKl)
              replace hbX : Below W8.heap.size W8 Wa := by first | exact hbX.trans (hba.mono hbX.size) | exact hba
              (try have hne := ne_new (n := 0) (c := 0) hKl)
              try dsimp only
              refine hK.out _ _ (HSX.out _ hbX) (fun hHeld => ?_)
              clear hK K
              try simp only [List.setIfInBounds_toArray, List.set_cons_zero, List.set_cons_succ]
              refine wpAnyH_ready (rs := [15]) (by kernel_rfl) (by simp) ?_
              refine (AllReadyH.cons (o := ⟨some 89, _, _, _, _, _⟩) rfl (fun K hK => ?_) AllReadyH.nil)
              (try rw [if_pos (by rfl)])
              obtain ⟨vn, Wn, hrun, ho, hgr, hv⟩ := app_idsO hbX.size hO (HRL.out _ hbX) (by omega)
              refine oper_append _ _ _ _ rfl _ _ rfl rfl _ _ hrun ?_
              have hbn : Below W8.heap.size W8 Wn := grown_below hbX hgr (fun i hi => (hO.lt i hi).1)
              (try have hKl := Blk.lt hKB)
              (try replace hKB := Blk.grown hKB hgr (fun e => hne _ e.symm rfl))
              (try replace hne := ne_app hne hv hKl)
              have hO := ho
              replace hbX := hbn
              clear hrun ho hgr hv hbn
              try simp only [Act.put, List.setIfInBounds_toArray, List.set_cons_zero, List.set_cons_succ]
              try dsimp only
              refine hK.out _ _ (HSX.out _ hbX) (fun hHeld => ?_)
              clear hK K
              try simp only [List.setIfInBounds_toArray, List.set_cons_zero, List.set_cons_succ]
              refine wpAnyH_ready (rs := [18]) (by kernel_rfl) (by simp) ?_
              refine (AllReadyH.cons (o := ⟨some 92, _, _, _, _, _⟩) rfl (fun K hK => ?_) AllReadyH.nil)
              (try rw [if_pos (by rfl)])
              obtain ⟨vn, Wn, hrun, ho, hgr⟩ := app_one hbX.size hO fy hKB (by omega)
              refine oper_append _ _ _ _ rfl _ _ rfl rfl _ _ hrun ?_
              have hbn : Below W8.heap.size W8 Wn := grown_below hbX hgr (fun i hi => (hO.lt i hi).1)
              have hRd := rd_snoc ho HN1.out hq60
              replace hbX := hbn
              clear hrun ho hgr hbn hO hKB
              try simp only [Act.put, List.setIfInBounds_toArray, List.set_cons_zero, List.set_cons_succ]
              try dsimp only
              refine hK.out _ _ (HSX.out _ hbX) (fun hHeld => ?_)
              clear hK K
              try simp only [List.setIfInBounds_toArray, List.set_cons_zero, List.set_cons_succ]
              refine wpAnyH_ready (rs := [19]) (by kernel_rfl) (by simp) ?_
              refine (AllReadyH.cons (o := ⟨some 93, _, _, _, _, _⟩) rfl (fun K hK => ?_) AllReadyH.nil)
              (try rw [if_pos (by rfl)])
              go_simp
              refine (HFY.out _ _ hbX hRd).mono ?_
              rintro e Wn ⟨rfl, hbn⟩
              replace hbX := hbX.trans (hbn.mono hbX.size)
              clear hRd
              try dsimp only
              refine hK.out _ _ (HSX.out _ hbX) (fun hHeld => ?_)
              clear hK K
              try simp only [List.setIfInBounds_toArray, List.set_cons_zero, List.set_cons_succ]
              refine wpAnyH_take (i := 20) (oi := ⟨some 94, _, _, _, _, _⟩) (v := ?_) rfl (by kernel_rfl) (by kernel_rfl) (by kernel_rfl) (fun _ _ _ h => h) (Or.inl ⟨by rfl, ?_⟩) (by assumption) ?_
              rotate_left
              · intro w hSw; (try dsimp only at hSw); go_simp; try (with_reducible rfl)
              rotate_left 0
              try simp only [Act.put, List.setIfInBounds_toArray, List.set_cons_zero, List.set_cons_succ]
              refine wpAnyH_take (i := 21) (oi := ⟨some 95, _, _, _, _, _⟩) (v := ?_) rfl (by kernel_rfl) (by kernel_rfl) (by kernel_rfl) (fun _ _ _ h => h) (Or.inl ⟨by rfl, ?_⟩) (by assumption) ?_
              rotate_left
              · intro w hSw; (try dsimp only at hSw); go_simp; try (with_reducible rfl)
              rotate_left 0
              try simp only [Act.put, List.setIfInBounds_toArray, List.set_cons_zero, List.set_cons_succ]
              refine wpAnyH_take (i := 22) (oi := ⟨some 96, _, _, _, _, _⟩) (v := ?_) rfl (by kernel_rfl) (by kernel_rfl) (by kernel_rfl) (fun _ _ _ h => h) (Or.inl ⟨by rfl, ?_⟩) (by assumption) ?_
              rotate_left
              · intro w hSw; (try dsimp only at hSw); go_simp; try (with_reducible rfl)
              rotate_left 0
              try simp only [Act.put, List.setIfInBounds_toArray, List.set_cons_zero, List.set_cons_succ]
              exact key2 _ _ _ (by kernel_rfl) ⟨_, _, _, _, _, _, _, _, rfl, hbX⟩
          · (try rw [if_pos (by rfl)])
            go_simp
            first | refine alloc_gen ?_ | refine alloc_genD ?_
            intro Wa hka hba
            have hb0 := hbX.size
            have hO := own_empty hka (B := W8.heap.size) (by first | exact hb0 | exact Nat.le_refl _)
            (try have hKl := Blk.lt hKB)
            (try replace hKB := Blk.below hKB hba hKl)
            replace hbX : Below W8.heap.size W8 Wa := by first | exact hbX.trans (hba.mono hbX.size) | exact hba
            (try have hne := ne_new (n := 0) (c := 0) hKl)
            try dsimp only
            refine hK.out _ _ (HSX.out _ hbX) (fun hHeld => ?_)
            clear hK K
            try simp only [List.setIfInBounds_toArray, List.set_cons_zero, List.set_cons_succ]
            refine wpAnyH_ready (rs := [12, 17]) (by kernel_rfl) (by simp) ?_
            refine (AllReadyH.cons (o := ⟨some 86, _, _, _, _, _⟩) rfl (fun K hK => ?_) (AllReadyH.cons (o := ⟨some 91, _, _, _, _, _⟩) rfl (fun K hK => ?_) AllReadyH.nil))
            · (try rw [if_pos (by rfl)])
              go_simp
              refine (HRB.out _ hbX).mono ?_
              rintro e Wn ⟨rfl, hbn⟩
              (try replace hO := Turn.own (Turn.of_below hbn) hO (fun i hi => by have := (hO.lt i hi).2; omega))
              (try replace hKB := Blk.below hKB hbn (Blk.lt hKB))
              replace hbX := hbX.trans (hbn.mono hbX.size)
              try dsimp only
              refine hK.out _ _ (HSX.out _ hbX) (fun hHeld => ?_)
              clear hK K
              try simp only [List.setIfInBounds_toArray, List.set_cons_zero, List.set_cons_succ]
              refine wpAnyH_ready (rs := [15, 17]) (by kernel_rfl) (by simp) ?_
              refine (AllReadyH.cons (o := ⟨some 89, _, _, _, _, _⟩) rfl (fun K hK => ?_) (AllReadyH.cons (o := ⟨some 91, _, _, _, _, _⟩) rfl (fun K hK => ?_) AllReadyH.nil))
              · (try rw [if_pos (by rfl)])
                obtain ⟨vn, Wn, hrun, ho, hgr, hv⟩ := app_idsO hbX.size hO (HRL.out _ hbX) (by omega)
                refine oper_append _ _ _ _ rfl _ _ rfl rfl _ _ hrun ?_
                have hbn : Below W8.heap.size W8 Wn := grown_below hbX hgr (fun i hi => (hO.lt i hi).1)
                (try have hKl := Blk.lt hKB)
                (try replace hKB := Blk.grown hKB hgr (fun e => hne _ e.symm rfl))
                (try replace hne := ne_app hne hv hKl)
                have hO := ho
                replace hbX := hbn
                clear hrun ho hgr hv hbn
                try simp only [Act.put, List.setIfInBounds_toArray, List.set_cons_zero, List.set_cons_succ]
                try dsimp only
                refine hK.out _ _ (HSX.out _ hbX) (fun hHeld => ?_)
                clear hK K
                try simp only [List.setIfInBounds_toArray, List.set_cons_zero, List.set_cons_succ]
                refine wpAnyH_ready (rs := [17]) (by kernel_rfl) (by simp) ?_
                refine (AllReadyH.cons (o := ⟨some 91, _, _, _, _, _⟩) rfl (fun K hK => ?_) AllReadyH.nil)
                (try rw [if_pos (by rfl)])
                refine wp_build_idc _ rfl fy (by rw [← idc_arr]; rfl) ?_
                first | refine alloc_gen ?_ | refine alloc_genD ?_
                intro Wa hka hba
                have hKB := hka
                have hKW := hbX.size
                (try have hne := ne_old hO)
                (try replace hO := Turn.own (Turn.of_below hba) hO (fun i hi => by have := (hO.lt i hi).2; omega))
                replace hbX : Below W8.heap.size W8 Wa := by first | exact hbX.trans (hba.mono hbX.size) | exact hba
                try dsimp only
                refine hK.out _ _ (HSX.out _ hbX) (fun hHeld => ?_)
                clear hK K
                try simp only [Act.put, List.setIfInBounds_toArray, List.set_cons_zero, List.set_cons_succ]
                refine wpAnyH_ready (rs := [18]) (by kernel_rfl) (by simp) ?_
                refine (AllReadyH.cons (o := ⟨some 92, _, _, _, _, _⟩) rfl (fun K hK => ?_) AllReadyH.nil)
                (try rw [if_pos (by rfl)])
                obtain ⟨vn, Wn, hrun, ho, hgr⟩ := app_one hbX.size hO fy hKB (by omega)
                refine oper_append _ _ _ _ rfl _ _ rfl rfl _ _ hrun ?_
                have hbn : Below W8.heap.size W8 Wn := grown_below hbX hgr (fun i hi => (hO.lt i hi).1)
                have hRd := rd_snoc ho HN1.out hq60
                replace hbX := hbn
                clear hrun ho hgr hbn hO hKB
                try simp only [Act.put, List.setIfInBounds_toArray, List.set_cons_zero, List.set_cons_succ]
                try dsimp only
                refine hK.out _ _ (HSX.out _ hbX) (fun hHeld => ?_)
                clear hK K
                try simp only [List.setIfInBounds_toArray, List.set_cons_zero, List.set_cons_succ]
                refine wpAnyH_ready (rs := [19]) (by kernel_rfl) (by simp) ?_
                refine (AllReadyH.cons (o := ⟨some 93, _, _, _, _, _⟩) rfl (fun K hK => ?_) AllReadyH.nil)
                (try rw [if_pos (by rfl)])
                go_simp
                refine (HFY.out _ _ hbX hRd).mono ?_
                rintro e Wn ⟨rfl, hbn⟩
                replace hbX := hbX.trans (hbn.mono hbX.size)
                clear hRd
                try dsimp only
                refine hK.out _ _ (HSX.out _ hbX) (fun hHeld => ?_)
                clear hK K
                try simp only [List.setIfInBounds_toArray, List.set_cons_zero, List.set_cons_succ]
                refine wpAnyH_take (i := 20) (oi := ⟨some 94, _, _, _, _, _⟩) (v := ?_) rfl (by kernel_rfl) (by kernel_rfl) (by kernel_rfl) (fun _ _ _ h => h) (Or.inl ⟨by rfl, ?_⟩) (by assumption) ?_
                rotate_left
                · intro w hSw; (try dsimp only at hSw); go_simp; try (with_reducible rfl)
                rotate_left 0
                try simp only [Act.put, List.setIfInBounds_toArray, List.set_cons_zero, List.set_cons_succ]
                refine wpAnyH_take (i := 21) (oi := ⟨some 95, _, _, _, _, _⟩) (v := ?_) rfl (by kernel_rfl) (by kernel_rfl) (by kernel_rfl) (fun _ _ _ h => h) (Or.inl ⟨by rfl, ?_⟩) (by assumption) ?_
                rotate_left
                · intro w hSw; (try dsimp only at hSw); go_simp; try (with_reducible rfl)
                rotate_left 0
                try simp only [Act.put, List.setIfInBounds_toArray, List.set_cons_zero, List.set_cons_succ]
                refine wpAnyH_take (i := 22) (oi := ⟨some 96, _, _, _, _, _⟩) (v := ?_) rfl (by kernel_rfl) (by kernel_rfl) (by kernel_rfl) (fun _ _ _ h => h) (Or.inl ⟨by rfl, ?_⟩) (by assumption) ?_
                rotate_left
                · intro w hSw; (try dsimp only at hSw); go_simp; try (with_reducible rfl)
                rotate_left 0
                try simp only [Act.put, List.setIfInBounds_toArray, List.set_cons_zero, List.set_cons_succ]
                exact key2 _ _ _ (by kernel_rfl) ⟨_, _, _, _, _, _, _, _, rfl, hbX⟩
              · (try rw [if_pos (by rfl)])
                refine wp_build_idc _ rfl fy (by rw [← idc_arr]; rfl) ?_
                first | refine alloc_gen ?_ | refine alloc_genD ?_
                intro Wa hka hba
                have hKB := hka
                have hKW := hbX.size
                (try have hne := ne_old hO)
                (try replace hO := Turn.own (Turn.of_below hba) hO (fun i hi => by have := (hO.lt i hi).2; omega))
                replace hbX : Below W8.heap.size W8 Wa := by first | exact hbX.trans (hba.mono hbX.size) | exact hba
                try dsimp only
                refine hK.out _ _ (HSX.out _ hbX) (fun hHeld => ?_)
                clear hK K
                try simp only [Act.put, List.setIfInBounds_toArray, List.set_cons_zero, List.set_cons_succ]
                refine wpAnyH_ready (rs := [15]) (by kernel_rfl) (by simp) ?_
                refine (AllReadyH.cons (o := ⟨some 89, _, _, _, _, _⟩) rfl (fun K hK => ?_) AllReadyH.nil)
                (try rw [if_pos (by rfl)])
                obtain ⟨vn, Wn, hrun, ho, hgr, hv⟩ := app_idsO hbX.size hO (HRL.out _ hbX) (by omega)
                refine oper_append _ _ _ _ rfl _ _ rfl rfl _ _ hrun ?_
                have hbn : Below W8.heap.size W8 Wn := grown_below hbX hgr (fun i hi => (hO.lt i hi).1)
                (try have hKl := Blk.lt hKB)
                (try replace hKB := Blk.grown hKB hgr (fun e => hne _ e.symm rfl))
                (try replace hne := ne_app hne hv hKl)
                have hO := ho
                replace hbX := hbn
                clear hrun ho hgr hv hbn
                try simp only [Act.put, List.setIfInBounds_toArray, List.set_cons_zero, List.set_cons_succ]
                try dsimp only
                refine hK.out _ _ (HSX.out _ hbX) (fun hHeld => ?_)
                clear hK K
                try simp only [List.setIfInBounds_toArray, List.set_cons_zero, List.set_cons_succ]
                refine wpAnyH_ready (rs := [18]) (by kernel_rfl) (by simp) ?_
                refine (AllReadyH.cons (o := ⟨some 92, _, _, _, _, _⟩) rfl (fun K hK => ?_) AllReadyH.nil)
                (try rw [if_pos (by rfl)])
                obtain ⟨vn, Wn, hrun, ho, hgr⟩ := app_one hbX.size hO fy hKB (by omega)
                refine oper_append _ _ _ _ rfl _ _ rfl rfl _ _ hrun ?_
                have hbn : Below W8.heap.size W8 Wn := grown_below hbX hgr (fun i hi => (hO.lt i hi).1)
                have hRd := rd_snoc ho HN1.out hq60
                replace hbX := hbn
                clear hrun ho hgr hbn hO hKB
                try simp only [Act.put, List.setIfInBounds_toArray, List.set_cons_zero, List.set_cons_succ]
                try dsimp only
                refine hK.out _ _ (HSX.out _ hbX) (fun hHeld => ?_)
                clear hK K
                try simp only [List.setIfInBounds_toArray, List.set_cons_zero, List.set_cons_succ]
                refine wpAnyH_ready (rs := [19]) (by kernel_rfl) (by simp) ?_
                refine (AllReadyH.cons (o := ⟨some 93, _, _, _, _, _⟩) rfl (fun K hK => ?_) AllReadyH.nil)
                (try rw [if_pos (by rfl)])
                go_simp
                refine (HFY.out _ _ hbX hRd).mono ?_
                rintro e Wn ⟨rfl, hbn⟩
                replace hbX := hbX.trans (hbn.mono hbX.size)
                clear hRd
                try dsimp only
                refine hK.out _ _ (HSX.out _ hbX) (fun hHeld => ?_)
                clear hK K
                try simp only [List.setIfInBounds_toArray, List.set_cons_zero, List.set_cons_succ]
                refine wpAnyH_take (i := 20) (oi := ⟨some 94, _, _, _, _, _⟩) (v := ?_) rfl (by kernel_rfl) (by kernel_rfl) (by kernel_rfl) (fun _ _ _ h => h) (Or.inl ⟨by rfl, ?_⟩) (by assumption) ?_
                rotate_left
                · intro w hSw; (try dsimp only at hSw); go_simp; try (with_reducible rfl)
                rotate_left 0
                try simp only [Act.put, List.setIfInBounds_toArray, List.set_cons_zero, List.set_cons_succ]
                refine wpAnyH_take (i := 21) (oi := ⟨some 95, _, _, _, _, _⟩) (v := ?_) rfl (by kernel_rfl) (by kernel_rfl) (by kernel_rfl) (fun _ _ _ h => h) (Or.inl ⟨by rfl, ?_⟩) (by assumption) ?_
                rotate_left
                · intro w hSw; (try dsimp only at hSw); go_simp; try (with_reducible rfl)
                rotate_left 0
                try simp only [Act.put, List.setIfInBounds_toArray, List.set_cons_zero, List.set_cons_succ]
                refine wpAnyH_take (i := 22) (oi := ⟨some 96, _, _, _, _, _⟩) (v := ?_) rfl (by kernel_rfl) (by kernel_rfl) (by kernel_rfl) (fun _ _ _ h => h) (Or.inl ⟨by rfl, ?_⟩) (by assumption) ?_
                rotate_left
                · intro w hSw; (try dsimp only at hSw); go_simp; try (with_reducible rfl)
                rotate_left 0
                try simp only [Act.put, List.setIfInBounds_toArray, List.set_cons_zero, List.set_cons_succ]
                exact key2 _ _ _ (by kernel_rfl) ⟨_, _, _, _, _, _, _, _, rfl, hbX⟩
            · (try rw [if_pos (by rfl)])
              refine wp_build_idc _ rfl fy (by rw [← idc_arr]; rfl) ?_
              first | refine alloc_gen ?_ | refine alloc_genD ?_
              intro Wa hka hba
              have hKB := hka
              have hKW := hbX.size
              (try have hne := ne_old hO)
              (try replace hO := Turn.own (Turn.of_below hba) hO (fun i hi => by have := (hO.lt i hi).2; omega))
              replace hbX : Below W8.heap.size W8 Wa := by first | exact hbX.trans (hba.mono hbX.size) | exact hba
              try dsimp only
              refine hK.out _ _ (HSX.out _ hbX) (fun hHeld => ?_)
              clear hK K
              try simp only [Act.put, List.setIfInBounds_toArray, List.set_cons_zero, List.set_cons_succ]
              refine wpAnyH_ready (rs := [12]) (by kernel_rfl) (by simp) ?_
              refine (AllReadyH.cons (o := ⟨some 86, _, _, _, _, _⟩) rfl (fun K hK => ?_) AllReadyH.nil)
              (try rw [if_pos (by rfl)])
              go_simp
              refine (HRB.out _ hbX).mono ?_
              rintro e Wn ⟨rfl, hbn⟩
              (try replace hO := Turn.own (Turn.of_below hbn) hO (fun i hi => by have := (hO.lt i hi).2; omega))
              (try replace hKB := Blk.below hKB hbn (Blk.lt hKB))
              replace hbX := hbX.trans (hbn.mono hbX.size)
              try dsimp only
              refine hK.out _ _ (HSX.out _ hbX) (fun hHeld => ?_)
              clear hK K
              try simp only [List.setIfInBounds_toArray, List.set_cons_zero, List.set_cons_succ]
              refine wpAnyH_ready (rs := [15]) (by kernel_rfl) (by simp) ?_
              refine (AllReadyH.cons (o := ⟨some 89, _, _, _, _, _⟩) rfl (fun K hK => ?_) AllReadyH.nil)
              (try rw [if_pos (by rfl)])
              obtain ⟨vn, Wn, hrun, ho, hgr, hv⟩ := app_idsO hbX.size hO (HRL.out _ hbX) (by omega)
              refine oper_append _ _ _ _ rfl _ _ rfl rfl _ _ hrun ?_
              have hbn : Below W8.heap.size W8 Wn := grown_below hbX hgr (fun i hi => (hO.lt i hi).1)
              (try have hKl := Blk.lt hKB)
              (try replace hKB := Blk.grown hKB hgr (fun e => hne _ e.symm rfl))
              (try replace hne := ne_app hne hv hKl)
              have hO := ho
              replace hbX := hbn
              clear hrun ho hgr hv hbn
              try simp only [Act.put, List.setIfInBounds_toArray, List.set_cons_zero, List.set_cons_succ]
              try dsimp only
              refine hK.out _ _ (HSX.out _ hbX) (fun hHeld => ?_)
              clear hK K
              try simp only [List.setIfInBounds_toArray, List.set_cons_zero, List.set_cons_succ]
              refine wpAnyH_ready (rs := [18]) (by kernel_rfl) (by simp) ?_
              refine (AllReadyH.cons (o := ⟨some 92, _, _, _, _, _⟩) rfl (fun K hK => ?_) AllReadyH.nil)
              (try rw [if_pos (by rfl)])
              obtain ⟨vn, Wn, hrun, ho, hgr⟩ := app_one hbX.size hO fy hKB (by omega)
              refine oper_append _ _ _ _ rfl _ _ rfl rfl _ _ hrun ?_
              have hbn : Below W8.heap.size W8 Wn := grown_below hbX hgr (fun i hi => (hO.lt i hi).1)
              have hRd := rd_snoc ho HN1.out hq60
              replace hbX := hbn
              clear hrun ho hgr hbn hO hKB
              try simp only [Act.put, List.setIfInBounds_toArray, List.set_cons_zero, List.set_cons_succ]
              try dsimp only
              refine hK.out _ _ (HSX.out _ hbX) (fun hHeld => ?_)
              clear hK K
              try simp only [List.setIfInBounds_toArray, List.set_cons_zero, List.set_cons_succ]
              refine wpAnyH_ready (rs := [19]) (by kernel_rfl) (by simp) ?_
              refine (AllReadyH.cons (o := ⟨some 93, _, _, _, _, _⟩) rfl (fun K hK => ?_) AllReadyH.nil)
              (try rw [if_pos (by rfl)])
              go_simp
              refine (HFY.out _ _ hbX hRd).mono ?_
              rintro e Wn ⟨rfl, hbn⟩
              replace hbX := hbX.trans (hbn.mono hbX.size)
              clear hRd
              try dsimp only
              refine hK.out _ _ (HSX.out _ hbX) (fun hHeld => ?_)
              clear hK K
              try simp only [List.setIfInBounds_toArray, List.set_cons_zero, List.set_cons_succ]
              refine wpAnyH_take (i := 20) (oi := ⟨some 94, _, _, _, _, _⟩) (v := ?_) rfl (by kernel_rfl) (by kernel_rfl) (by kernel_rfl) (fun _ _ _ h => h) (Or.inl ⟨by rfl, ?_⟩) (by assumption) ?_
              rotate_left
              · intro w hSw; (try dsimp only at hSw); go_simp; try (with_reducible rfl)
              rotate_left 0
              try simp only [Act.put, List.setIfInBounds_toArray, List.set_cons_zero, List.set_cons_succ]
              refine wpAnyH_take (i := 21) (oi := ⟨some 95, _, _, _, _, _⟩) (v := ?_) rfl (by kernel_rfl) (by kernel_rfl) (by kernel_rfl) (fun _ _ _ h => h) (Or.inl ⟨by rfl, ?_⟩) (by assumption) ?_
              rotate_left
              · intro w hSw; (try dsimp only at hSw); go_simp; try (with_reducible rfl)
              rotate_left 0
              try simp only [Act.put, List.setIfInBounds_toArray, List.set_cons_zero, List.set_cons_succ]
              refine wpAnyH_take (i := 22) (oi := ⟨some 96, _, _, _, _, _⟩) (v := ?_) rfl (by kernel_rfl) (by kernel_rfl) (by kernel_rfl) (fun _ _ _ h => h) (Or.inl ⟨by rfl, ?_⟩) (by assumption) ?_
              rotate_left
              · intro w hSw; (try dsimp only at hSw); go_simp; try (with_reducible rfl)
              rotate_left 0
              try simp only [Act.put, List.setIfInBounds_toArray, List.set_cons_zero, List.set_cons_succ]
              exact key2 _ _ _ (by kernel_rfl) ⟨_, _, _, _, _, _, _, _, rfl, hbX⟩
          · (try rw [if_pos (by rfl)])
            refine wp_build_idc _ rfl fy (by rw [← idc_arr]; rfl) ?_
            first | refine alloc_gen ?_ | refine alloc_genD ?_
            intro Wa hka hba
            have hKB := hka
            have hKW := hbX.size
            (try have hne := ne_old hO)
            (try replace hO := Turn.own (Turn.of_below hba) hO (fun i hi => by have := (hO.lt i hi).2; omega))
            replace hbX : Below W8.heap.size W8 Wa := by first | exact hbX.trans (hba.mono hbX.size) | exact hba
            try dsimp only
            refine hK.out _ _ (HSX.out _ hbX) (fun hHeld => ?_)
            clear hK K
            try simp only [Act.put, List.setIfInBounds_toArray, List.set_cons_zero, List.set_cons_succ]
            refine wpAnyH_ready (rs := [12, 13]) (by kernel_rfl) (by simp) ?_
            refine (AllReadyH.cons (o := ⟨some 86, _, _, _, _, _⟩) rfl (fun K hK => ?_) (AllReadyH.cons (o := ⟨some 87, _, _, _, _, _⟩) rfl (fun K hK => ?_) AllReadyH.nil))
            · (try rw [if_pos (by rfl)])
              go_simp
              refine (HRB.out _ hbX).mono ?_
              rintro e Wn ⟨rfl, hbn⟩
              (try replace hO := Turn.own (Turn.of_below hbn) hO (fun i hi => by have := (hO.lt i hi).2; omega))
              (try replace hKB := Blk.below hKB hbn (Blk.lt hKB))
              replace hbX := hbX.trans (hbn.mono hbX.size)
              try dsimp only
              refine hK.out _ _ (HSX.out _ hbX) (fun hHeld => ?_)
              clear hK K
              try simp only [List.setIfInBounds_toArray, List.set_cons_zero, List.set_cons_succ]
              refine wpAnyH_ready (rs := [13]) (by kernel_rfl) (by simp) ?_
              refine (AllReadyH.cons (o := ⟨some 87, _, _, _, _, _⟩) rfl (fun K hK => ?_) AllReadyH.nil)
              (try rw [if_pos (by rfl)])
              go_simp
              first | refine alloc_gen ?_ | refine alloc_genD ?_
              intro Wa hka hba
              have hb0 := hbX.size
              have hO := own_empty hka (B := W8.heap.size) (by first | exact hb0 | exact Nat.le_refl _)
              (try have hKl := Blk.lt hKB)
              (try replace hKB := Blk.below hKB hba hKl)
              replace hbX : Below W8.heap.size W8 Wa := by first | exact hbX.trans (hba.mono hbX.size) | exact hba
              (try have hne := ne_new (n := 0) (c := 0) hKl)
              try dsimp only
              refine hK.out _ _ (HSX.out _ hbX) (fun hHeld => ?_)
              clear hK K
              try simp only [List.setIfInBounds_toArray, List.set_cons_zero, List.set_cons_succ]
              refine wpAnyH_ready (rs := [15]) (by kernel_rfl) (by simp) ?_
              refine (AllReadyH.cons (o := ⟨some 89, _, _, _, _, _⟩) rfl (fun K hK => ?_) AllReadyH.nil)
              (try rw [if_pos (by rfl)])
              obtain ⟨vn, Wn, hrun, ho, hgr, hv⟩ := app_idsO hbX.size hO (HRL.out _ hbX) (by omega)
              refine oper_append _ _ _ _ rfl _ _ rfl rfl _ _ hrun ?_
              have hbn : Below W8.heap.size W8 Wn := grown_below hbX hgr (fun i hi => (hO.lt i hi).1)
              (try have hKl := Blk.lt hKB)
              (try replace hKB := Blk.grown hKB hgr (fun e => hne _ e.symm rfl))
              (try replace hne := ne_app hne hv hKl)
              have hO := ho
              replace hbX := hbn
              clear hrun ho hgr hv hbn
              try simp only [Act.put, List.setIfInBounds_toArray, List.set_cons_zero, List.set_cons_succ]
              try dsimp only
              refine hK.out _ _ (HSX.out _ hbX) (fun hHeld => ?_)
              clear hK K
              try simp only [List.setIfInBounds_toArray, List.set_cons_zero, List.set_cons_succ]
              refine wpAnyH_ready (rs := [18]) (by kernel_rfl) (by simp) ?_
              refine (AllReadyH.cons (o := ⟨some 92, _, _, _, _, _⟩) rfl (fun K hK => ?_) AllReadyH.nil)
              (try rw [if_pos (by rfl)])
              obtain ⟨vn, Wn, hrun, ho, hgr⟩ := app_one hbX.size hO fy hKB (by omega)
              refine oper_append _ _ _ _ rfl _ _ rfl rfl _ _ hrun ?_
              have hbn : Below W8.heap.size W8 Wn := grown_below hbX hgr (fun i hi => (hO.lt i hi).1)
              have hRd := rd_snoc ho HN1.out hq60
              replace hbX := hbn
              clear hrun ho hgr hbn hO hKB
              try simp only [Act.put, List.setIfInBounds_toArray, List.set_cons_zero, List.set_cons_succ]
              try dsimp only
              refine hK.out _ _ (HSX.out _ hbX) (fun hHeld => ?_)
              clear hK K
              try simp only [List.setIfInBounds_toArray, List.set_cons_zero, List.set_cons_succ]
              refine wpAnyH_ready (rs := [19]) (by kernel_rfl) (by simp) ?_
              refine (AllReadyH.cons (o := ⟨some 93, _, _, _, _, _⟩) rfl (fun K hK => ?_) AllReadyH.nil)
              (try rw [if_pos (by rfl)])
              go_simp
              refine (HFY.out _ _ hbX hRd).mono ?_
              rintro e Wn ⟨rfl, hbn⟩
              replace hbX := hbX.trans (hbn.mono hbX.size)
              clear hRd
              try dsimp only
              refine hK.out _ _ (HSX.out _ hbX) (fun hHeld => ?_)
              clear hK K
              try simp only [List.setIfInBounds_toArray, List.set_cons_zero, List.set_cons_succ]
              refine wpAnyH_take (i := 20) (oi := ⟨some 94, _, _, _, _, _⟩) (v := ?_) rfl (by kernel_rfl) (by kernel_rfl) (by kernel_rfl) (fun _ _ _ h => h) (Or.inl ⟨by rfl, ?_⟩) (by assumption) ?_
              rotate_left
              · intro w hSw; (try dsimp only at hSw); go_simp; try (with_reducible rfl)
              rotate_left 0
              try simp only [Act.put, List.setIfInBounds_toArray, List.set_cons_zero, List.set_cons_succ]
              refine wpAnyH_take (i := 21) (oi := ⟨some 95, _, _, _, _, _⟩) (v := ?_) rfl (by kernel_rfl) (by kernel_rfl) (by kernel_rfl) (fun _ _ _ h => h) (Or.inl ⟨by rfl, ?_⟩) (by assumption) ?_
              rotate_left
              · intro w hSw; (try dsimp only at hSw); go_simp; try (with_reducible rfl)
              rotate_left 0
              try simp only [Act.put, List.setIfInBounds_toArray, List.set_cons_zero, List.set_cons_succ]
              refine wpAnyH_take (i := 22) (oi := ⟨some 96, _, _, _, _, _⟩) (v := ?_) rfl (by kernel_rfl) (by kernel_rfl) (by kernel_rfl) (fun _ _ _ h => h) (Or.inl ⟨by rfl, ?_⟩) (by assumption) ?_
              rotate_left
              · intro w hSw; (try dsimp only at hSw); go_simp; try (with_reducible rfl)
              rotate_left 0
              try simp only [Act.put, List.setIfInBounds_toArray, List.set_cons_zero, List.set_cons_succ]
              exact key2 _ _ _ (by kernel_rfl) ⟨_, _, _, _, _, _, _, _, rfl, hbX⟩
            · (try rw [if_pos (by rfl)])
              go_simp
              first | refine alloc_gen ?_ | refine alloc_genD ?_
              intro Wa hka hba
              have hb0 := hbX.size
              have hO := own_empty hka (B := W8.heap.size) (by first | exact hb0 | exact Nat.le_refl _)
              (try have hKl := Blk.lt hKB)
              (try replace hKB := Blk.below hKB hba hKl)
              replace hbX : Below W8.heap.size W8 Wa := by first | exact hbX.trans (hba.mono hbX.size) | exact hba
              (try have hne := ne_new (n := 0) (c := 0) hKl)
              try dsimp only
              refine hK.out _ _ (HSX.out _ hbX) (fun hHeld => ?_)
              clear hK K
              try simp only [List.setIfInBounds_toArray, List.set_cons_zero, List.set_cons_succ]
              refine wpAnyH_ready (rs := [12]) (by kernel_rfl) (by simp) ?_
              refine (AllReadyH.cons (o := ⟨some 86, _, _, _, _, _⟩) rfl (fun K hK => ?_) AllReadyH.nil)
              (try rw [if_pos (by rfl)])
              go_simp
              refine (HRB.out _ hbX).mono ?_
              rintro e Wn ⟨rfl, hbn⟩
              (try replace hO := Turn.own (Turn.of_below hbn) hO (fun i hi => by have := (hO.lt i hi).2; omega))
              (try replace hKB := Blk.below hKB hbn (Blk.lt hKB))
              replace hbX := hbX.trans (hbn.mono hbX.size)
              try dsimp only
              refine hK.out _ _ (HSX.out _ hbX) (fun hHeld => ?_)
              clear hK K
              try simp only [List.setIfInBounds_toArray, List.set_cons_zero, List.set_cons_succ]
              refine wpAnyH_ready (rs := [15]) (by kernel_rfl) (by simp) ?_
              refine (AllReadyH.cons (o := ⟨some 89, _, _, _, _, _⟩) rfl (fun K hK => ?_) AllReadyH.nil)
              (try rw [if_pos (by rfl)])
              obtain ⟨vn, Wn, hrun, ho, hgr, hv⟩ := app_idsO hbX.size hO (HRL.out _ hbX) (by omega)
              refine oper_append _ _ _ _ rfl _ _ rfl rfl _ _ hrun ?_
              have hbn : Below W8.heap.size W8 Wn := grown_below hbX hgr (fun i hi => (hO.lt i hi).1)
              (try have hKl := Blk.lt hKB)
              (try replace hKB := Blk.grown hKB hgr (fun e => hne _ e.symm rfl))
              (try replace hne := ne_app hne hv hKl)
              have hO := ho
              replace hbX := hbn
              clear hrun ho hgr hv hbn
              try simp only [Act.put, List.setIfInBounds_toArray, List.set_cons_zero, List.set_cons_succ]
              try dsimp only
              refine hK.out _ _ (HSX.out _ hbX) (fun hHeld => ?_)
              clear hK K
              try simp only [List.setIfInBounds_toArray, List.set_cons_zero, List.set_cons_succ]
              refine wpAnyH_ready (rs := [18]) (by kernel_rfl) (by simp) ?_
              refine (AllReadyH.cons (o := ⟨some 92, _, _, _, _, _⟩) rfl (fun K hK => ?_) AllReadyH.nil)
              (try rw [if_pos (by rfl)])
              obtain ⟨vn, Wn, hrun, ho, hgr⟩ := app_one hbX.size hO fy hKB (by omega)
              refine oper_append _ _ _ _ rfl _ _ rfl rfl _ _ hrun ?_
              have hbn : Below W8.heap.size W8 Wn := grown_below hbX hgr (fun i hi => (hO.lt i hi).1)
              have hRd := rd_snoc ho HN1.out hq60
              replace hbX := hbn
              clear hrun ho hgr hbn hO hKB
              try simp only [Act.put, List.setIfInBounds_toArray, List.set_cons_zero, List.set_cons_succ]
              try dsimp only
              refine hK.out _ _ (HSX.out _ hbX) (fun hHeld => ?_)
              clear hK K
              try simp only [List.setIfInBounds_toArray, List.set_cons_zero, List.set_cons_succ]
              refine wpAnyH_ready (rs := [19]) (by kernel_rfl) (by simp) ?_
              refine (AllReadyH.cons (o := ⟨some 93, _, _, _, _, _⟩) rfl (fun K hK => ?_) AllReadyH.nil)
              (try rw [if_pos (by rfl)])
              go_simp
              refine (HFY.out _ _ hbX hRd).mono ?_
              rintro e Wn ⟨rfl, hbn⟩
              replace hbX := hbX.trans (hbn.mono hbX.size)
              clear hRd
              try dsimp only
              refine hK.out _ _ (HSX.out _ hbX) (fun hHeld => ?_)
              clear hK K
              try simp only [List.setIfInBounds_toArray, List.set_cons_zero, List.set_cons_succ]
              refine wpAnyH_take (i := 20) (oi := ⟨some 94, _, _, _, _, _⟩) (v := ?_) rfl (by kernel_rfl) (by kernel_rfl) (by kernel_rfl) (fun _ _ _ h => h) (Or.inl ⟨by rfl, ?_⟩) (by assumption) ?_
              rotate_left
              · intro w hSw; (try dsimp only at hSw); go_simp; try (with_reducible rfl)
              rotate_left 0
              try simp only [Act.put, List.setIfInBounds_toArray, List.set_cons_zero, List.set_cons_succ]
              refine wpAnyH_take (i := 21) (oi := ⟨some 95, _, _, _, _, _⟩) (v := ?_) rfl (by kernel_rfl) (by kernel_rfl) (by kernel_rfl) (fun _ _ _ h => h) (Or.inl ⟨by rfl, ?_⟩) (by assumption) ?_
              rotate_left
              · intro w hSw; (try dsimp only at hSw); go_simp; try (with_reducible rfl)
              rotate_left 0
              try simp only [Act.put, List.setIfInBounds_toArray, List.set_cons_zero, List.set_cons_succ]
              refine wpAnyH_take (i := 22) (oi := ⟨some 96, _, _, _, _, _⟩) (v := ?_) rfl (by kernel_rfl) (by kernel_rfl) (by kernel_rfl) (fun _ _ _ h => h) (Or.inl ⟨by rfl, ?_⟩) (by assumption) ?_
              rotate_left
              · intro w hSw; (try dsimp only at hSw); go_simp; try (with_reducible rfl)
              rotate_left 0
              try simp only [Act.put, List.setIfInBounds_toArray, List.set_cons_zero, List.set_cons_succ]
              exact key2 _ _ _ (by kernel_rfl) ⟨_, _, _, _, _, _, _, _, rfl, hbX⟩
        case key2 =>
          clear hHeld hbX
          rintro a W ⟨v76, v78, v80, v81, v87, v89, v91, v92, rfl, hbX⟩
          have hHeld := HSX.out _ hbX
          refine wpAnyH_take (i := 23) (oi := ⟨some 97, _, _, _, _, _⟩) (v := ?_) rfl (by kernel_rfl) (by kernel_rfl) (by kernel_rfl) (fun _ _ _ h => h) (Or.inl ⟨by rfl, ?_⟩) (by assumption) ?_
          rotate_left
          · intro w hSw; (try dsimp only at hSw); go_simp; try (with_reducible rfl)
          rotate_left 0
          try simp only [Act.put, List.setIfInBounds_toArray, List.set_cons_zero, List.set_cons_succ]
          refine wpAnyH_take (i := 25) (oi := ⟨some 99, _, _, _, _, _⟩) (v := ?_) rfl (by kernel_rfl) (by kernel_rfl) (by kernel_rfl) (fun _ _ _ h => h) (Or.inl ⟨by rfl, ?_⟩) (by assumption) ?_
          rotate_left
          · intro w hSw; (try dsimp only at hSw); go_simp; try (with_reducible rfl)
          rotate_left 0
          try simp only [Act.put, List.setIfInBounds_toArray, List.set_cons_zero, List.set_cons_succ]
          refine wpAnyH_ready (rs := [24]) (by kernel_rfl) (by simp) ?_
          refine (AllReadyH.cons (o := ⟨some 98, _, _, _, _, _⟩) rfl (fun K hK => ?_) AllReadyH.nil)
          (try rw [if_pos (by rfl)])
          go_simp
          refine (HRR.out _ hbX).mono ?_
          rintro e Wn ⟨rfl, hbn⟩
          (try replace hO := Turn.own (Turn.of_below hbn) hO (fun i hi => by have := (hO.lt i hi).2; omega))
          (try replace hKB := Blk.below hKB hbn (Blk.lt hKB))
          replace hbX := hbX.trans (hbn.mono hbX.size)
          try dsimp only
          refine hK.out _ _ (HSX.out _ hbX) (fun hHeld => ?_)
          clear hK K
          try simp only [List.setIfInBounds_toArray, List.set_cons_zero, List.set_cons_succ]
          refine wpAnyH_ready (rs := [26]) (by kernel_rfl) (by simp) ?_
          refine (AllReadyH.cons (o := ⟨some 100, _, _, _, _, _⟩) rfl (fun K hK => ?_) AllReadyH.nil)
          (try rw [if_pos (by rfl)])
          go_simp
          refine (HFL.out _ hbX).mono ?_
          rintro e Wn ⟨rfl, hbn⟩
          (try replace hO := Turn.own (Turn.of_below hbn) hO (fun i hi => by have := (hO.lt i hi).2; omega))
          (try replace hKB := Blk.below hKB hbn (Blk.lt hKB))
          replace hbX := hbX.trans (hbn.mono hbX.size)
          try dsimp only
          refine hK.out _ _ (HSX.out _ hbX) (fun hHeld => ?_)
          clear hK K
          try simp only [List.setIfInBounds_toArray, List.set_cons_zero, List.set_cons_succ]
          refine wpAnyH_take (i := 27) (oi := ⟨some 101, _, _, _, _, _⟩) (v := ?_) rfl (by kernel_rfl) (by kernel_rfl) (by kernel_rfl) (fun _ _ _ h => h) (Or.inl ⟨by rfl, ?_⟩) (by assumption) ?_
          rotate_left
          · intro w hSw; (try dsimp only at hSw); go_simp; try (with_reducible rfl)
          rotate_left 0
          try simp only [Act.put, List.setIfInBounds_toArray, List.set_cons_zero, List.set_cons_succ]
          refine wpAnyH_take (i := 28) (oi := ⟨some 102, _, _, _, _, _⟩) (v := ?_) rfl (by kernel_rfl) (by kernel_rfl) (by kernel_rfl) (fun _ _ _ h => h) (Or.inl ⟨by rfl, ?_⟩) (by assumption) ?_
          rotate_left
          · intro w hSw; (try dsimp only at hSw); go_simp; try (with_reducible rfl)
          rotate_left 0
          try simp only [Act.put, List.setIfInBounds_toArray, List.set_cons_zero, List.set_cons_succ]
          refine wpAnyH_take (i := 29) (oi := ⟨some 6, _, _, _, _, _⟩) (v := ?_) rfl (by kernel_rfl) (by kernel_rfl) (by kernel_rfl) (fun _ _ _ h => h) (Or.inl ⟨by rfl, ?_⟩) (by assumption) ?_
          rotate_left
          · intro w hSw; (try dsimp only at hSw); go_simp; try (with_reducible rfl)
          rotate_left 0
          try simp only [Act.put, List.setIfInBounds_toArray, List.set_cons_zero, List.set_cons_succ]
          refine wpAnyH_done (by kernel_rfl) ?_ _
          have HX := Lib.hid (HB1.out.trans ((HB8.out.trans (hbX.mono HB8.out.size)).mono HB1.out.size))
          clear hbX
          go_wp2
          go_ret
          exact ⟨rfl, HX.out⟩
end Go.Proofs.YtkkanaefngggoaaDoor
