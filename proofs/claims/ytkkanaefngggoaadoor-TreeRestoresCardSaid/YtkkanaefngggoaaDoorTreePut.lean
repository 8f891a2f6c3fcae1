/-
  tree.put: for every range and leaf: a leaf more carries over each lowest tree. No condition.
-/
import Derived.Test.YtkkanaefngggoaaDoorTree
import Derived.Test.YtkkanaefngggoaaDoorPackOps
import Derived.Great.BuildSlice
import Derived.Deep.RegionHeld3
namespace Go.Proofs.YtkkanaefngggoaaDoor
open Go Go.RowKit Go.Shelf TreeM

/-- What holds at the head of a round of put. -/
def PutRel (w wr : World) (Z : Nat → Prop) (g n c : Nat) (ob : Option Nat) (R : List D) : Prop :=
  ∃ (v : Value) (ts : List D) (f : D), Blk wr g 71 #[.int .i64 (n : Int), v] ∧ wr.ownsRow 0 30 32 v ts.length (idCells ts) ∧ v.ownBlock = ob ∧ Blk wr (w.heap.size + 1) 30 (arr 32 fun i => bv (f i)) ∧ ts.length = pop c ∧ carry c ts f = R ∧ Turn Z w wr ∧ w.heap.size + 1 < wr.heap.size
theorem b2 (w : World) (t t' : TypeId) (a b : Array Value) : Below w.heap.size w ((w.alloc (.cells a t)).alloc (.cells b t')) := ((Below.refl _ _).alloc (Nat.le_refl _) _).alloc (by simp) _
theorem put_start {w W2 : World} {Z : Nat → Prop} {g n : Nat} {ts : List D} {f : D} {v : Value} {a b : Array Value} {t : TypeId} (h : RangeAt w Z g n ts) (hv : w.cell? ⟨g, 1, none⟩ = some v)
    (hS : Blk W2 (w.heap.size + 1) 30 (arr 32 fun i => bv (f i))) (hb : Below (w.heap.size + 1) ((w.alloc (.cells a t)).alloc (.cells b t)) W2) : PutRel w W2 Z g n n v.ownBlock (carry n ts f) ∧ W2.cell? ⟨g, 0, none⟩ = some (.int .i64 (n : Int)) := by
  have hbW : Below w.heap.size w W2 := (b2 w t t a b).trans (hb.mono (Nat.le_succ _))
  obtain ⟨v', q1, q2, q3, q4, q5, q6, q7⟩ := h
  have e : some v' = some v := (q1.cell 1).symm.trans hv
  injection e with e
  subst e
  have k1 := q1.below hbW q1.lt
  refine ⟨⟨v', ts, f, k1, Turn.own (Turn.of_below hbW) q2 (fun i hi => by have := q5 i (q4 i hi); omega), rfl, hS, q6, rfl, Turn.of_new hbW Z, hS.lt⟩, k1.cell 0⟩
/-- What is known of a round's world: the range, its row, the top. -/
def PutW (w W : World) (Z : Nat → Prop) (g n G m c1 : Nat) (ts : List D) (af : Array Value) : Prop :=
  Blk W (w.heap.size + 1) 30 af ∧ af.size = 32 ∧ Blk W g 71 #[.int .i64 (n : Int), .slice (some ⟨G, 0, none⟩) (m + 1) c1] ∧ W.ownsRow 0 30 32 (.slice (some ⟨G, 0, none⟩) (m + 1) c1) (m + 1) (idCells ts) ∧ Turn Z w W ∧ w.heap.size + 1 < W.heap.size
theorem put_below {w W W' : World} {Z : Nat → Prop} {g n G m c1 : Nat} {ts : List D} {af : Array Value} (h : PutW w W Z g n G m c1 ts af) (hb : Below W.heap.size W W') : PutW w W' Z g n G m c1 ts af := by
  obtain ⟨h1, h2, h3, h4, h5, h6⟩ := h
  exact ⟨h1.below hb h1.lt, h2, h3.below hb h3.lt, Turn.own (Turn.of_below hb) h4 (fun i hi => by have := (h4.lt i hi).2; omega), h5.trans (Turn.of_new hb Z) (fun i _ hi => hi), Nat.lt_of_lt_of_le h6 hb.size⟩
theorem put_top {w W W' : World} {Z : Nat → Prop} {g n G m c1 : Nat} {ts : List D} {af af' : Array Value} (h : PutW w W Z g n G m c1 ts af) (hg : g < w.heap.size) (hG : G < w.heap.size) (hS : Blk W' (w.heap.size + 1) 30 af') (hs : af'.size = 32) (hz : W'.heap.size = W.heap.size) (hb : Below (w.heap.size + 1) W W') (hk : ∀ b, b ≠ w.heap.size + 1 → W'.heap[b]? = W.heap[b]?) : PutW w W' Z g n G m c1 ts af' := by
  obtain ⟨h1, h2, h3, h4, h5, h6⟩ := h
  have ht : Turn (fun i => i = w.heap.size + 1) W W' := ⟨hb.os, hb.tape, hb.output, by omega, fun i _ hi => hk i hi⟩
  exact ⟨hS, hs, ht.blk h3 (by omega), ht.own h4 (fun i hi => by simp only [Value.ownBlock, Option.some.injEq] at hi; omega), h5.trans ht (fun i hi he => by omega), by omega⟩
theorem put_round {w W : World} {Z : Nat → Prop} {g n k G m c1 : Nat} {ts : List D} {f : D} {R : List D} (h : PutW w W Z g n G m c1 ts (arr 32 fun i => bv (node (ts.getLastD f) f i))) (hg : g < w.heap.size) (hZ : Z g) (hm : ts.length = m + 1) (hp : ts.length = pop k) (hodd : k % 2 = 1) (hc : carry k ts f = R) :
    PutRel w (W.setCell ⟨g, 1, none⟩ (.slice (some ⟨G, 0, none⟩) m c1)) Z g n (k / 2) (some G) R := by
  obtain ⟨h1, h2, h3, h4, h5, h6⟩ := h
  have hne := range_ne h3 h4 G rfl
  have ht : Turn (fun i => i = g) W (W.setCell ⟨g, 1, none⟩ (.slice (some ⟨G, 0, none⟩) m c1)) := (Turn.refl (fun i => i = g) W).setCell (p := ⟨g, 1, none⟩) (fun _ => rfl) _
  have ho := own_cutN h4 (show m ≤ m + 1 by omega)
  rw [idCells_take ts m (by omega)] at ho
  have e : ts.take m = ts.dropLast := by rw [List.dropLast_eq_take, hm]; rfl
  rw [e] at ho
  have hl : ts.dropLast.length = m := by rw [List.length_dropLast, hm]; rfl
  refine ⟨.slice (some ⟨G, 0, none⟩) m c1, ts.dropLast, node (ts.getLastD f) f, h3.store 1 _, ?_, rfl, ht.blk h1 (by omega), ?_, ?_, h5.setCell (fun _ => hZ) _, by simpa [World.setCell] using h6⟩
  · rw [hl]
    exact ht.own ho (fun i hi => by simp only [Value.ownBlock, Option.some.injEq] at hi; omega)
  · rw [hl]
    have := pop_step k
    omega
  · rw [← hc, carry_odd hodd]
theorem wp_build_idc {o : Oper} {a : Act} {w : World} {K : Act → World → Prop} {Q : Exit → Act → World → Prop} (x : Operand) (ho : o.op = .buildSlice 22 1 #[(0, x)]) (f : D) (hx : a.eval x = .agg (idc f).toArray)
    (h : K (a.put o.dst (.slice (some ⟨w.heap.size, 0, none⟩) 1 1)) (w.alloc (.cells (arr 32 fun i => bv (f i)) 30))) : o.wp Tryd.prog a w K Q := by
  obtain ⟨i0, hi, hz0, hz1, hz2⟩ := info_parts info_id
  refine wp_buildSlice 22 30 1 _ ho (arr 32 fun i => bv (f i)) i0 _ Tryd.underlying22 hi hz0 (by rw [hz1]; decide) (by rw [hz1]; decide) ?_ h
  rw [hz1]
  simp only [List.map_toArray, List.map_cons, List.map_nil, hx]
  kernel_rfl
theorem put_end {w wr W5 W6 : World} {Z : Nat → Prop} {g n k G m1 cap : Nat} {v1 : Value} {ts ts1 : List D} {f f1 : D} (hB : Blk wr g 71 #[.int .i64 (n : Int), v1]) (hlen : m1 = ts1.length) (hpop : ts.length = pop n) (hn : n < 1099511627776)
    (hc : carry k ts1 f1 = carry n ts f) (hodd : ¬ k % 2 = 1) (ht : Turn Z w wr) (hZ : ∀ i, Z i → i < w.heap.size) (hZg : Z g) (hv : ∀ i, v1.ownBlock = some i → Z i) (hne : ∀ i, v1.ownBlock = some i → i ≠ g) (h5 : Below wr.heap.size wr W5)
    (hO : W6.ownsRow 0 30 32 (.slice (some ⟨G, 0, none⟩) (m1 + 1) cap) (m1 + 1) (idCells ts1 ++ idc f1)) (hgr : W5.grownBy W6 v1.ownBlock) (hG : v1.ownBlock = some G ∨ W5.heap.size ≤ G) :
    RLeft Z g (n + 1) (carry n ts f) w ((W6.setCell ⟨g, 1, none⟩ (.slice (some ⟨G, 0, none⟩) (m1 + 1) cap)).setCell ⟨g, 0, none⟩ (.int .i64 ((n : Int) + 1))) := by
  have t5 : Turn Z w W5 := ht.trans (Turn.of_new h5 Z) (fun i _ hi => hi)
  have t6 : Turn Z w W6 := t5.grown hgr (fun i hi _ => hv i hi)
  have t7 := t6.setCell (p := ⟨g, 1, none⟩) (fun _ => hZg) (.slice (some ⟨G, 0, none⟩) (m1 + 1) cap)
  have t8 := t7.setCell (p := ⟨g, 0, none⟩) (fun _ => hZg) (.int .i64 ((n : Int) + 1))
  have hgw : g < wr.heap.size := hB.lt
  have b6 : Blk W6 g 71 #[.int .i64 (n : Int), v1] := (hgr.block g (Nat.lt_of_lt_of_le hgw h5.size) (fun e => hne g e.symm rfl)).trans (hB.below h5 hgw)
  have hGg : G ≠ g := by
    rcases hG with h | h
    · exact hne G h
    · have := h5.size
      omega
  have hG6 : G < W6.heap.size := (hO.lt G rfl).2
  have b8 := (b6.store 1 (.slice (some ⟨G, 0, none⟩) (m1 + 1) cap)).store 0 (.int .i64 ((n : Int) + 1))
  have tg : Turn (fun i => i = g) W6 ((W6.setCell ⟨g, 1, none⟩ (.slice (some ⟨G, 0, none⟩) (m1 + 1) cap)).setCell ⟨g, 0, none⟩ (.int .i64 ((n : Int) + 1))) :=
    ((Turn.refl (fun i => i = g) W6).setCell (p := ⟨g, 1, none⟩) (fun _ => rfl) _).setCell (p := ⟨g, 0, none⟩) (fun _ => rfl) _
  have o8 := tg.own hO (fun i hi => by simp only [Value.ownBlock, Option.some.injEq] at hi; omega)
  have hcl := carry_length n ts f hpop
  rw [← hc, carry_even hodd, List.length_append, List.length_singleton] at hcl
  refine ⟨fun i => Z i ∨ i = G, ⟨.slice (some ⟨G, 0, none⟩) (m1 + 1) cap, ?_, ?_, .inl hZg, fun i hi => ?_, fun i hi => ?_, ?_, by omega⟩, t8, fun i hi => ?_⟩
  · exact b8
  · rw [← hc, carry_even hodd, List.length_append, List.length_singleton, idCells_append, idCells_one, ← hlen]
    exact o8
  · simp only [Value.ownBlock, Option.some.injEq] at hi
    exact .inr hi.symm
  · have e8 := tg.size
    rcases hi with hi | hi
    · have := hZ i hi
      have := t8.size
      omega
    · omega
  · rw [← hc, carry_even hodd, List.length_append, List.length_singleton]; exact hcl
  · rcases hi with hi | rfl
    · exact .inl hi
    · rcases hG with h | h
      · exact .inl (hv i h)
      · have := h5.size
        have := ht.size
        exact .inr (by omega)
set_option maxRecDepth 100000 in
set_option maxHeartbeats 2000000 in
theorem put_any (w0 : World) (hT : Tables w0) (Z : Nat → Prop) (g n : Nat) (ts : List D) (f : D) (w : World) (h : RangeAt w Z g n ts) (hZ : ∀ i, Z i → w0.heap.size ≤ i) (hb0 : Below w0.heap.size w0 w) (hn : n < 1099511627776) :
    Calls Tryd.prog 44 #[.pointer (some ⟨g, 0, none⟩), .agg (arr 32 fun i => bv (f i))] w fun e w' => e = .returned (.tuple #[]) ∧ RLeft Z g (n + 1) (carry n ts f) w w' := by
  obtain ⟨v, hB, hO, hZg, hvZ, hlt, hpop, hle⟩ := id h
  obtain ⟨af, haf⟩ : ∃ af, (arr 32 fun i => bv (f i)) = af := ⟨_, rfl⟩
  have hsz : af.size = 32 := by rw [← haf, arr_size]
  have hone : af.all (·.oneCell') = true := by rw [← haf]; exact arr_all_bv _ _
  rw [haf]
  have HAF := Lib.hid haf
  have c0 : w.cell? ⟨g, 0, none⟩ = some (.int .i64 (n : Int)) := hB.cell 0
  have hcv : w.cell? ⟨g, 1, none⟩ = some v := hB.cell 1
  have hg : g < w.heap.size := hB.lt
  have H := Lib.hid h
  clear haf h hB hO
  go_enter Tryd.func44, Tryd.ntmps44
  go_wp2_with (first
    | (refine wpList_load_arr rfl 30 _ rfl w.heap.size rfl 30 af _ (Blk.newAt w _ rfl rfl) Tryd.underlying30 rfl (by rw [hsz]; kernel_rfl) ?_)
    | (refine wpList_store_arrW rfl 30 _ _ rfl (w.heap.size + 1) af rfl rfl 30 _ (Blk.newAt _ _ (by simp) rfl) (by rw [hsz]; kernel_rfl) (by rw [hsz]; rfl) hone ?_; intro W2 hS2 hz2 hb2 hk2; obtain ⟨hP2, c2⟩ := put_start (f := f) H.out hcv (by rw [HAF.out]; exact hS2) hb2; have HP2 := Lib.hid hP2; clear hS2 hz2 hb2 hk2 hP2))
  go_loopw [5] (fun c wr => ∃ k : Nat, k ≤ n ∧ c = .int .i64 (k : Int) ∧ PutRel w wr Z g n k v.ownBlock (carry n ts f)) (fun c _ => (intOf c).toNat)
  case atStart => exact ⟨n, by omega, rfl, HP2.out⟩
  case round =>
    clear c2 c0 HP2
    obtain ⟨k, hk, rfl, v1, ts1, f1, hB, hO, hob, hTb, hp1, hc1, ht1, hs1⟩ := hrel
    by_cases hodd : k % 2 = 1
    · have ho1 : ((k : Int) % 2 == 1) = true := by simp; omega
      have hpos := pop_odd_pos hodd
      obtain ⟨A1, c1, rfl, hcap⟩ := own_len hO
      obtain ⟨G, rfl⟩ := own_addrN hO (by omega)
      have cs1 : wr.cell? ⟨g, 1, none⟩ = some (.slice (some ⟨G, 0, none⟩) ts1.length c1) := hB.cell 1
      have fs1 : wr.frozen? ⟨g, 1, none⟩ = false := hB.frozen 1
      obtain ⟨m, hm⟩ : ∃ m, ts1.length = m + 1 := ⟨ts1.length - 1, by omega⟩
      have hmb : (m : Int) ≤ 1000 := by
        have := pop_le 41 k (by have : k ≤ 1099511627776 := by omega
                                omega)
        omega
      have hm0 : 0 ≤ (m : Int) := by omega
      have hr1 := own_last hO hm f1
      obtain ⟨last, hlast⟩ : ∃ last, ts1.getLastD f1 = last := ⟨_, rfl⟩
      rw [hlast] at hr1
      have hr2 : wr.rangeAt (w.heap.size + 1) 0 (idc f1) := range_blk (by rw [← idc_arr]; exact hTb)
      have HND : Hid (∀ W, Below w0.heap.size w0 W → Calls Tryd.prog 33 #[.agg (idc last).toArray, .agg (idc f1).toArray] W fun e w' => e = .returned (.agg (idc (node last f1)).toArray) ∧ Below W.heap.size W w') := Lib.hid fun W hb => by
        have := node_any last f1 W (hT.below hb)
        rw [idc_arr, idc_arr] at this
        refine this.mono ?_
        rintro e w' ⟨h1, h2⟩
        exact ⟨by rw [h1, ← idc_arr]; rfl, h2⟩
      have HOLD : Hid (Below w0.heap.size w0 wr) := Lib.hid (hb0.trans (ht1.below hb0.size fun i hi hz => by have := hZ i hz; omega))
      have HONE := Lib.hid (all_oneCell_toArray (idc_one (node last f1)))
      have HR1 := Lib.hid hr1
      have HR2 := Lib.hid hr2
      have HII := Lib.hid (And.intro (idc_info last) (And.intro (idc_info f1) (And.intro (idc_length last) (And.intro (idc_length f1) (idc_one (node last f1))))))
      have hGZ := hvZ G (by rw [← hob]; rfl)
      have hGlt := hlt G hGZ
      have HPW : Hid (PutW w wr.drew Z g n G m c1 ts1 (arr 32 fun i => bv (f1 i))) := Lib.hid (put_below ⟨hTb, arr_size _ _, by rw [← hm]; exact hB, by rw [← hm]; exact hO, ht1, hs1⟩ ⟨rfl, rfl, rfl, Nat.le_refl _, fun _ _ => rfl⟩)
      have HEND : Hid (∀ W, PutW w W Z g n G m c1 ts1 (idc (node last f1)).toArray → PutRel w (W.setCell ⟨g, 1, none⟩ (.slice (some ⟨G, 0, none⟩) m c1)) Z g n (k / 2) v.ownBlock (carry n ts f)) := Lib.hid fun W hW => by
        rw [← idc_arr, ← hlast] at hW
        have := put_round hW hg hZg hm hp1 hodd hc1
        rw [← hob]
        exact this
      have hsl := run_slice_toN (P := Tryd.prog) 22 30 Tryd.underlying22 32 (by kernel_rfl) (some ⟨G, 0, none⟩) (m + 1) c1 m (by omega)
      clear hB hO hTb ht1 hr1 hr2 hlast hp1 hc1 hob
      obtain ⟨il, hil⟩ : ∃ il, idc last = il := ⟨_, rfl⟩
      obtain ⟨i1, hi1⟩ : ∃ i1, idc f1 = i1 := ⟨_, rfl⟩
      rw [hil, hi1] at HND HII
      rw [hil] at HR1
      rw [hi1] at HR2
      clear hil hi1
      have hml : (m : Int) < (m : Int) + 1 := by omega
      have hml2 : (m : Int) < ((m + 1 : Nat) : Int) := by omega
      go_wp2
      go_still_tail 8, (by kernel_rfl)
      refine wpStill_load_mid rfl 30 _ rfl G (m * 32) rfl il _ (show wr.drew.rangeAt _ _ _ from HR1.out) Tryd.underlying30 rfl HII.out.1 ?_
      refine wpStill_load_mid rfl 30 _ rfl (w.heap.size + 1) 0 rfl i1 _ (show wr.drew.rangeAt _ _ _ from HR2.out) Tryd.underlying30 rfl HII.out.2.1 ?_
      refine wpStill_nil ?_
      change wpList _ _ _ _ _ wr.drew
      go_wp2_with (first
        | (go_at_call 33; refine (HND.out _ HOLD.out.drew).mono ?_; rintro e W3 ⟨rfl, hb3⟩; have Q3 := Lib.hid (put_below HPW.out hb3); clear hb3)
        | (refine wpList_store_arrW rfl 30 _ _ rfl (w.heap.size + 1) (idc (node last f1)).toArray rfl rfl 30 _ Q3.out.1 (by rw [List.size_toArray, idc_length]; kernel_rfl) (by rw [Q3.out.2.1, List.size_toArray, idc_length]) HONE.out ?_; intro W4 hS4 hz4 hb4 hk4; have q4 := put_top Q3.out hg hGlt hS4 (by rw [List.size_toArray, idc_length]) hz4 hb4 hk4; have cs4 := q4.2.2.1.cell 1; have fs4 := q4.2.2.1.frozen 1; have cs5 : W4.cell? ⟨g, 1, none⟩ = some (.slice (some ⟨G, 0, none⟩) (m + 1) c1) := cs4; have Q4 := Lib.hid q4; clear cs4 hS4 hz4 hb4 hk4 q4))
      go_roundw
      case rel => exact ⟨k / 2, by omega, by simp, HEND.out _ Q4.out⟩
      case measure => simp [intOf]; omega
    · have ho1 : ((k : Int) % 2 == 1) = false := by simp; omega
      obtain ⟨A1, c1, rfl, hcap⟩ := own_len hO
      have cs1 : wr.cell? ⟨g, 1, none⟩ = some (.slice A1 ts1.length c1) := hB.cell 1
      obtain ⟨m, hm⟩ : ∃ m, ts1.length = m := ⟨_, rfl⟩
      have hne := range_ne hB hO
      have hr2 : wr.rangeAt (w.heap.size + 1) 0 (idc f1) := range_blk (by rw [← idc_arr]; exact hTb)
      have h5 : Below wr.heap.size wr (wr.drew.alloc (.cells (arr 32 fun i => bv (f1 i)) 30)) := ((Below.refl _ wr).drew).alloc (Nat.le_refl _) _
      have hb5 := hB.below h5 hB.lt
      have hmb : ts1.length ≤ 100000000 := by
        have := pop_le 41 k (by have : k ≤ 1099511627776 := by omega
                                omega)
        omega
      obtain ⟨G, cap, W6, hrun, hO6, hgr, hG⟩ := app_id (B := 0) (Nat.zero_le _) (Turn.own (Turn.of_below h5) hO (fun i hi => by have := (hO.lt i hi).2; omega)) f1 (Blk.newAt wr.drew _ rfl rfl) hmb
      have b6 : Blk W6 g 71 #[.int .i64 (n : Int), .slice A1 ts1.length c1] := (hgr.block g hb5.lt (fun e => hne g e.symm rfl)).trans hb5
      have c60 : W6.cell? ⟨g, 0, none⟩ = some (.int .i64 (n : Int)) := b6.cell 0
      have c61 : W6.cell? ⟨g, 1, none⟩ = some (.slice A1 ts1.length c1) := b6.cell 1
      have f60 : W6.frozen? ⟨g, 0, none⟩ = false := b6.frozen 0
      have f61 : W6.frozen? ⟨g, 1, none⟩ = false := b6.frozen 1
      have HEND := Lib.hid (put_end hB hm.symm hpop hn hc1 hodd ht1 hlt hZg (fun i hi => hvZ i (by rw [← hob]; exact hi)) hne h5 (by rw [← hm]; exact hO6) hgr hG)
      have R1 := Lib.hid hrun
      have hsb : ∀ W, Below wr.heap.size wr W → W.rangeAt (w.heap.size + 1) 0 (idc f1) := fun W hb => range_blk (by rw [← idc_arr]; exact hTb.below hb hTb.lt)
      have HS0 : Hid (wr.drew.rangeAt (w.heap.size + 1) 0 (idc f1)) := Lib.hid (hsb _ (Below.refl _ wr).drew)
      have HS1 : Hid ((wr.drew.alloc (.cells (arr 32 fun i => bv (f1 i)) 30)).rangeAt (w.heap.size + 1) 0 (idc f1)) := Lib.hid (hsb _ h5)
      have hTb6 : Blk W6 (w.heap.size + 1) 30 (arr 32 fun i => bv (f1 i)) := by
        have hq := hTb.below h5 hTb.lt
        exact (hgr.block _ hq.lt (fun e => by have := hlt _ (hvZ _ (by rw [← hob]; exact e.symm)); omega)).trans hq
      have HS6 : Hid (W6.rangeAt (w.heap.size + 1) 0 (idc f1)) := Lib.hid (range_blk (by rw [← idc_arr]; exact hTb6))
      have HS7 : Hid ((W6.setCell ⟨g, 1, none⟩ (.slice (some ⟨G, 0, none⟩) (m + 1) cap)).rangeAt (w.heap.size + 1) 0 (idc f1)) := Lib.hid (range_blk (by rw [← idc_arr]; exact (((Turn.refl (fun i => i = g) W6).setCell (p := ⟨g, 1, none⟩) (fun _ => rfl) _).blk hTb6 (by omega))))
      have c51 : (wr.drew.alloc (.cells (arr 32 fun i => bv (f1 i)) 30)).cell? ⟨g, 1, none⟩ = some (.slice A1 ts1.length c1) := hb5.cell 1
      have c52 : (wr.alloc (.cells (arr 32 fun i => bv (f1 i)) 30)).cell? ⟨g, 1, none⟩ = some (.slice A1 ts1.length c1) := (hB.below ((Below.refl _ wr).alloc (Nat.le_refl _) _) hB.lt).cell 1
      have cd1 : wr.drew.cell? ⟨g, 1, none⟩ = some (.slice A1 ts1.length c1) := cs1
      have HI1 := Lib.hid (idc_info f1)
      clear hrun hO6 hgr hG hb5 b6 hB hO hTb hTb6 hsb hr2 hc1 hob hp1 ht1
      rw [hm] at cs1 c61 R1 c51 c52 cd1
      go_wp2
      refine wp_region_held_drew (S := fun W => W.rangeAt (w.heap.size + 1) 0 (idc f1)) (by kernel_rfl) ?_ (fun hHeld => ?_)
      · exact HS0.out
      refine wpAnyH_take (i := 0) (oi := ⟨some 41, _, _, _, _, _⟩) (v := ?_) rfl (by kernel_rfl) (by kernel_rfl) (by kernel_rfl) (fun _ _ _ h => h) (Or.inl ⟨by rfl, ?_⟩) (by assumption) ?_
      rotate_left
      · intro w hSw; (try dsimp only at hSw); go_simp; try (with_reducible rfl)
      rotate_left 0
      try simp only [Act.put, List.setIfInBounds_toArray, List.set_cons_zero, List.set_cons_succ]
      refine wpAnyH_take (i := 1) (oi := ⟨some 42, _, _, _, _, _⟩) (v := ?_) rfl (by kernel_rfl) (by kernel_rfl) (by kernel_rfl) (fun _ _ _ h => h) (Or.inl ⟨by rfl, ?_⟩) (by assumption) ?_
      rotate_left
      · intro w hSw; (try dsimp only at hSw); go_simp; try (with_reducible rfl)
      rotate_left 0
      try simp only [Act.put, List.setIfInBounds_toArray, List.set_cons_zero, List.set_cons_succ]
      refine wpAnyH_take (i := 2) (oi := ⟨some 43, _, _, _, _, _⟩) (v := ?_) rfl (by kernel_rfl) (by kernel_rfl) (by kernel_rfl) (fun _ _ _ h => h) (Or.inl ⟨by rfl, ?_⟩) (by assumption) ?_
      rotate_left
      · intro w hSw; (try dsimp only at hSw); go_simp; try (with_reducible rfl)
      rotate_left 0
      try simp only [Act.put, List.setIfInBounds_toArray, List.set_cons_zero, List.set_cons_succ]
      refine wpAnyH_take (i := 3) (oi := ⟨some 44, _, _, _, _, _⟩) (v := ?_) rfl (by kernel_rfl) (by kernel_rfl) (by kernel_rfl) (fun _ _ _ h => h) (Or.inl ⟨by rfl, ?_⟩) (by assumption) ?_
      rotate_left
      · intro w hSw; (try dsimp only at hSw); go_simp; try (with_reducible rfl)
      rotate_left 0
      try simp only [Act.put, List.setIfInBounds_toArray, List.set_cons_zero, List.set_cons_succ]
      refine wpAnyH_take (i := 5) (oi := ⟨some 46, _, _, _, _, _⟩) (v := _) rfl (by kernel_rfl) (by kernel_rfl) (by kernel_rfl) (fun _ _ _ h => h) (yieldsIf_load_mid (by rfl) _ _ rfl _ _ rfl (idc f1) _ (fun _ hS => hS) Tryd.underlying30 rfl HI1.out) (by assumption) ?_
      try simp only [Act.put, List.setIfInBounds_toArray, List.set_cons_zero, List.set_cons_succ]
      refine wpAnyH_ready (rs := [4, 6]) (by kernel_rfl) (by simp) ?_
      refine AllReadyH.cons (o := ⟨some 45, _, _, _, _, _⟩) rfl (fun K hK => ?_) (AllReadyH.cons (o := ⟨some 47, _, _, _, _, _⟩) rfl (fun K hK => ?_) (AllReadyH.nil))
      · (try rw [if_pos (by rfl)])
        go_simp
        try dsimp only
        refine hK.out _ _ ?_ (fun hHeld => ?_)
        · first | exact HS0.out | exact HS1.out
        clear hK K
        try simp only [Act.put, List.setIfInBounds_toArray, List.set_cons_zero, List.set_cons_succ]
        refine wpAnyH_ready (rs := [6]) (by kernel_rfl) (by simp) ?_
        refine AllReadyH.cons (o := ⟨some 47, _, _, _, _, _⟩) rfl (fun K hK => ?_) (AllReadyH.nil)
        rw [if_pos (by rfl)]
        refine wp_build_idc _ rfl f1 rfl ?_
        try dsimp only
        refine hK.out _ _ ?_ (fun hHeld => ?_)
        · exact HS1.out
        clear hK K
        try simp only [Act.put, List.setIfInBounds_toArray, List.set_cons_zero, List.set_cons_succ]
        refine wpAnyH_ready (rs := [7]) (by kernel_rfl) (by simp) ?_
        refine AllReadyH.cons (o := ⟨some 48, _, _, _, _, _⟩) rfl (fun K hK => ?_) (AllReadyH.nil)
        rw [if_pos (by rfl)]
        refine oper_append (.tmp 45) (.tmp 47) _ _ rfl _ _ rfl rfl _ _ R1.out ?_
        refine hK.out _ _ ?_ (fun hHeld => ?_)
        · exact HS6.out
        clear hK K
        try simp only [Act.put, List.setIfInBounds_toArray, List.set_cons_zero, List.set_cons_succ]
        refine wpAnyH_take (i := 8) (oi := ⟨some 49, _, _, _, _, _⟩) (v := ?_) rfl (by kernel_rfl) (by kernel_rfl) (by kernel_rfl) (fun _ _ _ h => h) (Or.inl ⟨by rfl, ?_⟩) (by assumption) ?_
        rotate_left
        · intro w hSw; (try dsimp only at hSw); go_simp; try (with_reducible rfl)
        rotate_left 0
        try simp only [Act.put, List.setIfInBounds_toArray, List.set_cons_zero, List.set_cons_succ]
        refine wpAnyH_take (i := 9) (oi := ⟨some 50, _, _, _, _, _⟩) (v := ?_) rfl (by kernel_rfl) (by kernel_rfl) (by kernel_rfl) (fun _ _ _ h => h) (Or.inl ⟨by rfl, ?_⟩) (by assumption) ?_
        rotate_left
        · intro w hSw; (try dsimp only at hSw); go_simp; try (with_reducible rfl)
        rotate_left 0
        try simp only [Act.put, List.setIfInBounds_toArray, List.set_cons_zero, List.set_cons_succ]
        refine wpAnyH_ready (rs := [10]) (by kernel_rfl) (by simp) ?_
        refine AllReadyH.cons (o := ⟨none, _, _, _, _, _⟩) rfl (fun K hK => ?_) (AllReadyH.nil)
        go_simp
        refine hK.out _ _ ?_ (fun hHeld => ?_)
        · exact HS7.out
        clear hK K
        try simp only [Act.put, List.setIfInBounds_toArray, List.set_cons_zero, List.set_cons_succ]
        refine wpAnyH_done (by kernel_rfl) ?_ _
        clear hHeld
        go_wp2
        go_end0
        exact ⟨rfl, HEND.out⟩
      · rw [if_pos (by rfl)]
        refine wp_build_idc _ rfl f1 rfl ?_
        try dsimp only
        refine hK.out _ _ ?_ (fun hHeld => ?_)
        · exact HS1.out
        clear hK K
        try simp only [Act.put, List.setIfInBounds_toArray, List.set_cons_zero, List.set_cons_succ]
        refine wpAnyH_ready (rs := [4]) (by kernel_rfl) (by simp) ?_
        refine AllReadyH.cons (o := ⟨some 45, _, _, _, _, _⟩) rfl (fun K hK => ?_) (AllReadyH.nil)
        (try rw [if_pos (by rfl)])
        go_simp
        try dsimp only
        refine hK.out _ _ ?_ (fun hHeld => ?_)
        · first | exact HS0.out | exact HS1.out
        clear hK K
        try simp only [Act.put, List.setIfInBounds_toArray, List.set_cons_zero, List.set_cons_succ]
        refine wpAnyH_ready (rs := [7]) (by kernel_rfl) (by simp) ?_
        refine AllReadyH.cons (o := ⟨some 48, _, _, _, _, _⟩) rfl (fun K hK => ?_) (AllReadyH.nil)
        rw [if_pos (by rfl)]
        refine oper_append (.tmp 45) (.tmp 47) _ _ rfl _ _ rfl rfl _ _ R1.out ?_
        refine hK.out _ _ ?_ (fun hHeld => ?_)
        · exact HS6.out
        clear hK K
        try simp only [Act.put, List.setIfInBounds_toArray, List.set_cons_zero, List.set_cons_succ]
        refine wpAnyH_take (i := 8) (oi := ⟨some 49, _, _, _, _, _⟩) (v := ?_) rfl (by kernel_rfl) (by kernel_rfl) (by kernel_rfl) (fun _ _ _ h => h) (Or.inl ⟨by rfl, ?_⟩) (by assumption) ?_
        rotate_left
        · intro w hSw; (try dsimp only at hSw); go_simp; try (with_reducible rfl)
        rotate_left 0
        try simp only [Act.put, List.setIfInBounds_toArray, List.set_cons_zero, List.set_cons_succ]
        refine wpAnyH_take (i := 9) (oi := ⟨some 50, _, _, _, _, _⟩) (v := ?_) rfl (by kernel_rfl) (by kernel_rfl) (by kernel_rfl) (fun _ _ _ h => h) (Or.inl ⟨by rfl, ?_⟩) (by assumption) ?_
        rotate_left
        · intro w hSw; (try dsimp only at hSw); go_simp; try (with_reducible rfl)
        rotate_left 0
        try simp only [Act.put, List.setIfInBounds_toArray, List.set_cons_zero, List.set_cons_succ]
        refine wpAnyH_ready (rs := [10]) (by kernel_rfl) (by simp) ?_
        refine AllReadyH.cons (o := ⟨none, _, _, _, _, _⟩) rfl (fun K hK => ?_) (AllReadyH.nil)
        go_simp
        refine hK.out _ _ ?_ (fun hHeld => ?_)
        · exact HS7.out
        clear hK K
        try simp only [Act.put, List.setIfInBounds_toArray, List.set_cons_zero, List.set_cons_succ]
        refine wpAnyH_done (by kernel_rfl) ?_ _
        clear hHeld
        go_wp2
        go_end0
        exact ⟨rfl, HEND.out⟩
end Go.Proofs.YtkkanaefngggoaaDoor
