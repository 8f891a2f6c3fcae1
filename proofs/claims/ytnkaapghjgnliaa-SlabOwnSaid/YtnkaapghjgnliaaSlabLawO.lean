/-
  SlabOwn's walk: for whatever bytes, in whatever memory: true; nothing old turns.
-/
import Derived.Test.YtnkaapghjgnliaaSlabLawC
namespace Go.Proofs.Ytnkaapghjgnliaa
open Go Go.RowKit Go.Shelf

theorem set_ints {cs : Array Value} {n : Nat} (h : ∀ j, j < n → ∃ y : Int, cs[j]? = some (.int .u8 y)) (k : Nat) (z : Int) : ∀ j, j < n → ∃ y : Int, (cs.setIfInBounds k (.int .u8 z))[j]? = some (.int .u8 y) := fun j hj => by
  obtain ⟨y, hy⟩ := h j hj
  rw [Array.getElem?_setIfInBounds]
  have hs : j < cs.size := by
    rcases Nat.lt_or_ge j cs.size with h' | h'
    · exact h'
    · rw [Array.getElem?_eq_none h'] at hy; cases hy
  by_cases hkj : k = j
  · subst hkj; exact ⟨z, by simp [hs]⟩
  · exact ⟨y, by simp [hkj, hy]⟩
/-- A row of bytes of which each becomes another one: nothing else turns. -/
def IncRel (W wr : World) (A : Option Addr) (n : Nat) : Prop := (∀ G, A = some ⟨G, 0, none⟩ → 0 < n → ∃ cs, Blk wr G 5 cs ∧ ∀ j, j < n → ∃ y : Int, cs[j]? = some (.int .u8 y)) ∧ Turn (fun i => A = some ⟨i, 0, none⟩) W wr
theorem inc_start {W : World} {B n c : Nat} {A : Option Addr} {bs : List UInt8} (h : W.ownsRow B 5 1 (.slice A n c) n (bs.map bv)) : IncRel W W A n := by
  refine ⟨fun G hA hn => ?_, Turn.refl _ _⟩
  rcases h.2 with ⟨_, h0⟩ | ⟨g, cap, cur, hv, h1, h2, h3, h4, h5, h6⟩
  · omega
  · injection hv with e1 e2 e3
    rw [hA] at e1
    injection e1 with e1
    injection e1 with e1 _ _
    subst e1
    refine ⟨cur, h2, fun j hj => ?_⟩
    have hl : bs.length = n := by simpa using h.1
    have e : cur.toList[j]? = (bs.map bv)[j]? := by rw [← h6, List.getElem?_take_of_lt (by omega)]
    rw [Array.getElem?_toList, List.getElem?_map, List.getElem?_eq_getElem (by omega)] at e
    exact ⟨_, e⟩
theorem inc_open {W wr : World} {G n k : Nat} (h : IncRel W wr (some ⟨G, 0, none⟩) n) (hk : k < n) : ∃ y : Int, wr.cell? ⟨G, k, none⟩ = some (.int .u8 y) ∧ wr.frozen? ⟨G, k, none⟩ = false ∧ ∀ z : Int, IncRel W (wr.setCell ⟨G, k, none⟩ (.int .u8 z)) (some ⟨G, 0, none⟩) n := by
  obtain ⟨cs, hb, hy⟩ := h.1 G rfl (by omega)
  obtain ⟨y, hyk⟩ := hy k hk
  refine ⟨y, (hb.cell k).trans hyk, hb.frozen k, fun z => ⟨fun G' hG _ => ?_, h.2.setCell (p := ⟨G, k, none⟩) (fun _ => rfl) _⟩⟩
  injection hG with hG
  injection hG with hG _ _
  subst hG
  exact ⟨_, hb.store k _, set_ints hy k z⟩
theorem own_addr {W : World} {B n c : Nat} {A : Option Addr} {xs : List Value} (h : W.ownsRow B 5 1 (.slice A n c) n xs) (hn : 0 < n) : ∃ G, A = some ⟨G, 0, none⟩ := by
  rcases ownsRow_forms' h with ⟨_, h0⟩ | ⟨g, cap, hv⟩
  · omega
  · injection hv with e1 _ _
    exact ⟨g, e1⟩
theorem own_block_of {A : Option Addr} {n c i : Nat} (h : A = some ⟨i, 0, none⟩) : (Value.slice A n c).ownBlock = some i := by rw [h]; rfl
/-- A copy of bytes, made by an append to an empty slice. -/
theorem mine_part {W : World} {ok : Nat → Prop} {A : Option Addr} {n c : Nat} {bs : List UInt8} (hr : RdB W ok (.slice A n c) bs) (hok : ∀ i, ok i → i < W.heap.size) (hn : n ≤ 1048576) :
    ∃ A' c' w3, (Builtin.append_ #[32, 32] 32 #[.slice (some ⟨W.heap.size, 0, none⟩) 0 0, .slice A n c]).run Try.prog (W.alloc (.cells #[] 5)) = .ok (.slice A' n c') w3 ∧
      w3.ownsRow W.heap.size 5 1 (.slice A' n c') n (bs.map bv) ∧ Below W.heap.size W w3 := by
  have hb0 : Below W.heap.size W (W.alloc (.cells #[] 5)) := (Below.refl _ _).alloc (Nat.le_refl _) _
  have own0 : (W.alloc (.cells #[] 5)).ownsRow W.heap.size 5 1 (.slice (some ⟨W.heap.size, 0, none⟩) 0 0) 0 (([] : List UInt8).map bv) := ⟨rfl, .inr ⟨W.heap.size, 0, #[], rfl, Nat.le_refl _, heap_alloc_new W _, Nat.le_refl _, by unfold maxLen; omega, rfl, rfl⟩⟩
  obtain ⟨v', w', hrun, hown, hgr, hv⟩ := app_turn (B := W.heap.size) (by simp) own0 (hr.kept (W' := W.alloc (.cells #[] 5)) fun a x ha h => (hb0.cell (p := a) (hok _ ha)).trans h) (by omega)
  rw [Nat.zero_add, List.nil_append] at hown
  obtain ⟨A', c', rfl, _⟩ := own_len hown
  exact ⟨A', c', w', hrun, hown, hb0.grown hgr (by simp) fun k hk => by
    simp only [Value.ownBlock, Option.some.injEq] at hk
    omega⟩
/-- All that is known behind the append to the slab: the slab, the copy, what is old. -/
def OwnAt (w W : World) (Z : Nat → Prop) (g : Nat) (s : SlabS) (A : Option Addr) (n c : Nat) (bs : List UInt8) : Prop :=
  SlabAt W Z g s ∧ W.ownsRow w.heap.size 5 1 (.slice A n c) n (bs.map bv) ∧ (∀ i, A = some ⟨i, 0, none⟩ → ¬ Z i) ∧ Below w.heap.size w W
theorem ownAt_inc {w W wr : World} {Z : Nat → Prop} {g n c : Nat} {s : SlabS} {A : Option Addr} {bs : List UInt8} (h : OwnAt w W Z g s A n c bs) (hi : IncRel W wr A n) : SlabAt wr Z g s ∧ Below w.heap.size w wr := by
  obtain ⟨h1, h2, h3, h4⟩ := h
  refine ⟨h1.turn hi.2 fun i hz he => h3 i he hz, h4.trans (hi.2.below h4.size fun i hlt he => ?_)⟩
  have := (h2.lt i (own_block_of he)).1
  omega
theorem own_joined {w w2 w3 w4 : World} {g n c : Nat} {A : Option Addr} {bs : List UInt8} {s s' : SlabS} {Z : Nat → Prop}
    (h : SlabAt w3 (fun i => i = g) g s ∧ w3.ownsRow w2.heap.size 5 1 (.slice A n c) n (bs.map bv) ∧ Below w.heap.size w w3 ∧ w.heap.size ≤ w2.heap.size ∧ g < w2.heap.size ∧ w.heap.size ≤ g) (h4 : SlabAt w4 Z g s') (ht : Turn (fun i => i = g) w3 w4) (hz : ∀ i, Z i → i = g ∨ w3.heap.size ≤ i) : OwnAt w w4 Z g s' A n c bs := by
  obtain ⟨h1, h2, h3, h5, h6⟩ := h
  refine ⟨h4, ?_, fun i hi hzi => ?_, h3.trans (ht.below h3.size fun i hi e => by omega)⟩
  · have := ht.own h2 (fun i hi e => by have := (h2.lt i hi).1; omega)
    refine ⟨this.1, ?_⟩
    rcases this.2 with h0 | ⟨g', cap, cur, q1, q2, q3⟩
    · exact .inl h0
    · exact .inr ⟨g', cap, cur, q1, by omega, q3⟩
  · have := h2.lt i (own_block_of hi)
    rcases hz i hzi with h | h <;> omega
theorem own_new {w wr w5 : World} {g n c : Nat} {A : Option Addr} {bs : List UInt8} {s : SlabS} {Z : Nat → Prop} (h1 : SlabAt wr Z g s) (ho : w5.ownsRow wr.heap.size 5 1 (.slice A n c) n (bs.map bv)) (hb : Below wr.heap.size wr w5) (hk : Below w.heap.size w wr) (hlt : ∀ i, Z i → i < wr.heap.size) :
    OwnAt w w5 Z g s A n c bs := by
  have hs := hk.size
  refine ⟨h1.below hb, ?_, fun i hi hzi => ?_, hk.trans (hb.mono hs)⟩
  · refine ⟨ho.1, ?_⟩
    rcases ho.2 with h0 | ⟨g', cap, cur, q1, q2, q3⟩
    · exact .inl h0
    · exact .inr ⟨g', cap, cur, q1, by omega, q3⟩
  · have := (ho.lt i (own_block_of hi)).1
    have := hlt i hzi
    omega
set_option maxRecDepth 100000 in
set_option maxHeartbeats 4000000 in
theorem own_any (A1 : Option Addr) (c1 : Nat) (L1 : List UInt8) (w : World) (hr1 : RdB w (fun b => b < w.heap.size) (.slice A1 L1.length c1) L1) :
    Calls Try.prog 5 #[.slice A1 L1.length c1] w fun e w' => e = .returned (.bool true) ∧ Below w.heap.size w w' := by
  obtain ⟨n1, hn1⟩ : ∃ n, L1.length = n := ⟨_, rfl⟩
  rw [hn1] at hr1 ⊢
  have RF := Lib.hid hr1
  have LF := Lib.hid hn1
  by_cases h1 : 1000 < n1
  · have d1 : decide ((1000 : Int) < (n1 : Int)) = true := decide_eq_true (by omega)
    have d1' : (1000 : Int) < (n1 : Int) := by omega
    clear hn1 hr1
    go_enter Try.func5, Try.ntmps5
    go_wp2_with (first
      | (go_at_call 8; refine (keeps_any _).mono ?_; rintro e w1 ⟨rfl, hb1⟩; have B1 := Lib.hid hb1; clear hb1))
    go_ret
    exact ⟨rfl, B1.out⟩
  · have d1 : decide ((1000 : Int) < (n1 : Int)) = false := decide_eq_false (by omega)
    have d1' : ¬ (1000 : Int) < (n1 : Int) := by omega
    have d2 : (n1 : Int) ≤ 1000 := by omega
    have P1 := Lib.hid (p_app 3000 [] L1 0 (by show L1.length ≤ 3000 - 0; omega))
    clear hn1 hr1
    go_enter Try.func5, Try.ntmps5
    go_wp2_with (first
      | (go_at_call 8; refine (keeps_any _).mono ?_; rintro e w1 ⟨rfl, hb1⟩; have B1 := Lib.hid hb1; clear hb1)
      | (go_at_call 9; refine (slabNew_any 3000 (by omega) _).mono ?_; rintro e w2 ⟨rfl, h2, hb2⟩; have k2 := B1.out.trans (hb2.mono B1.out.size); obtain ⟨A3, c3, w3, run3, own3, hb3⟩ := mine_part (RF.out.kept (W' := w2) fun a x ha h => (k2.cell (p := a) ha).trans h) (fun i hi => Nat.lt_of_lt_of_le hi k2.size) (by omega); have k3 := k2.trans (hb3.mono k2.size); have hg : w1.heap.size < w2.heap.size ∧ w.heap.size ≤ w1.heap.size := ⟨(by obtain ⟨_, hb, _⟩ := h2; exact hb.lt), B1.out.size⟩; have O3 := Lib.hid (And.intro (h2.below hb3) (And.intro own3 (And.intro k3 (And.intro k2.size hg)))); have R3 := Lib.hid run3; clear h2 hb2 k2 k3 own3 hb3 run3 hg B1)
      | (at_builtin; refine wpList_append_run rfl (.tmp 21) (.tmp 22) _ _ rfl _ _ rfl rfl _ _ R3.out ?_)
      | (go_at_call 12; refine (slabAppend_any _ _ _ (fun b => w2.heap.size ≤ b ∧ b < w3.heap.size) A3 n1 c3 L1 _ O3.out.1 LF.out ((own_read O3.out.2.1 (by omega)).mono fun b hb => hb.2) (fun i hi => ⟨hi.2, fun e => by have := O3.out.2.2.2.2; omega⟩)).mono ?_; rw [P1.out]; rintro e w4 ⟨rfl, Z4, h4, ht4, hz4⟩; have O4 : Hid (OwnAt w w4 Z4 w1.heap.size ⟨3000, L1, 0, -1⟩ A3 n1 c3 L1) := Lib.hid (own_joined O3.out h4 ht4 hz4); clear h4 ht4 hz4 O3 R3))
    go_loopw [30] (fun v wr => ∃ k : Nat, k ≤ n1 ∧ v = .int .i64 (k : Int) ∧ IncRel w4 wr A3 n1) (fun v _ => n1 - (intOf v).toNat)
    case atStart => exact ⟨0, by omega, rfl, inc_start O4.out.2.1⟩
    case round =>
      obtain ⟨k, hk, rfl, hrel⟩ := hrel
      by_cases hlt : k < n1
      · obtain ⟨G, rfl⟩ := own_addr O4.out.2.1 (by omega)
        obtain ⟨y, hc, hf, hnext⟩ := inc_open hrel hlt
        have HN := Lib.hid hnext
        have hkn : (k : Int) < (n1 : Int) := by omega
        clear hrel hnext
        go_wp2
        go_roundw
        case rel => exact ⟨k + 1, by omega, by go_num, HN.out _⟩
        case measure => simp [intOf]; omega
      · obtain rfl : k = n1 := by omega
        obtain ⟨q1, q2⟩ := ownAt_inc O4.out hrel
        have Q := Lib.hid (And.intro q1 q2)
        clear hrel q1 q2
        go_wp2_with (go_at_call 24; refine (slabBytes_any _ _ _ _ Q.out.1).mono ?_; rintro e w5 ⟨A5, c5, rfl, ho5, hb5⟩; have ho6 : w5.ownsRow wr.heap.size 5 1 (.slice A5 k c5) k (L1.map bv) := (by have := ho5; rw [LF.out] at this; exact this); have k6 := Q.out.2.trans (hb5.mono Q.out.2.size); have e1 := str_rd (own_read ho6 (by omega)); have e2 := str_rd (RF.out.kept (W' := w5) fun a x ha h => (k6.cell (p := a) ha).trans h); rw [LF.out]; have hlt : ∀ i, Z4 i → i < wr.heap.size := (by obtain ⟨_, _, _, _, _, hlt, _⟩ := Q.out.1; exact hlt); have O5 : Hid (OwnAt w w5 Z4 w1.heap.size ⟨3000, L1, 0, -1⟩ A5 k c5 L1) := Lib.hid (own_new Q.out.1 ho6 hb5 Q.out.2 hlt); clear ho5 ho6 hb5 k6 hlt Q)
        go_loopw [49] (fun v wr => ∃ i : Nat, i ≤ k ∧ v = .int .i64 (i : Int) ∧ IncRel w5 wr A5 k) (fun v _ => k - (intOf v).toNat)
        case atStart => exact ⟨0, by omega, rfl, inc_start O5.out.2.1⟩
        case round =>
          obtain ⟨i, hi, rfl, hrel⟩ := hrel
          by_cases hlt : i < k
          · obtain ⟨G, rfl⟩ := own_addr O5.out.2.1 (by omega)
            obtain ⟨y, hc, hf, hnext⟩ := inc_open hrel hlt
            have HN := Lib.hid hnext
            have hkn : (i : Int) < (k : Int) := by omega
            clear hrel hnext
            go_wp2
            go_roundw
            case rel => exact ⟨i + 1, by omega, by go_num, HN.out _⟩
            case measure => simp [intOf]; omega
          · obtain rfl : i = k := by omega
            obtain ⟨q1, q2⟩ := ownAt_inc O5.out hrel
            have e3 := str_rd (RF.out.kept (W' := wr.drew) fun a x ha h => (q2.drew.cell (p := a) ha).trans h)
            have Q := Lib.hid (And.intro q1 q2)
            clear hrel q1 q2
            go_wp2
            go_region_with ((go_at_call 24; refine (slabBytes_any _ _ _ _ (show SlabAt wr.drew _ _ _ from Q.out.1)).mono ?_; rintro e w6 ⟨A6, c6, rfl, ho6, hb6⟩; have ho7 : w6.ownsRow wr.heap.size 5 1 (.slice A6 i c6) i (L1.map bv) := (by have := ho6; rw [LF.out] at this; exact this); have k6 := Q.out.2.drew.trans (hb6.mono Q.out.2.size); have e4 := str_rd (own_read ho7 (by omega)); have e5 := str_rd (RF.out.kept (W' := w6) fun a x ha h => (k6.cell (p := a) ha).trans h); rw [LF.out]; have HB6 := Lib.hid k6; clear ho6 ho7 hb6 k6 Q))
            all_goals (go_wp2; go_ret; exact ⟨rfl, HB6.out⟩)
end Go.Proofs.Ytnkaapghjgnliaa
