/-
  The reference's put, for the entries of List: for every message that reads and has none yet, any string that isn't empty, in whatever memory.
-/
import Derived.Test.YtngceddlieimmaaPackRefPut6
import Derived.Test.YtngceddlieimmaaPackListBase
namespace Go.Proofs.Ytngceddlieimmaa
open Go Go.RowKit PackMath

theorem app_val' {B : Nat} {w : World} (hB : B ≤ w.heap.size) {v : Value} {n : Nat} {xs : List Value} (hown : w.ownsRow B 24 1 v n xs) (x : Value) (hx : x.oneCell' = true) {g0 : Nat} (hg0 : Blk w g0 24 #[x]) (hn : n ≤ 100000000) :
    ∃ g cap w', (Builtin.append_ #[26, 26] 26 #[v, .slice (some ⟨g0, 0, none⟩) 1 1]).run Try.prog w = .ok (.slice (some ⟨g, 0, none⟩) (n + 1) cap) w' ∧
      w'.ownsRow B 24 1 (.slice (some ⟨g, 0, none⟩) (n + 1) cap) (n + 1) (xs ++ [x]) ∧ w.grownBy w' v.ownBlock ∧ (v.ownBlock = some g ∨ g = w.heap.size) := by
  obtain ⟨i0, hi, hz0, hz1, hz2⟩ := info_parts info_row
  obtain ⟨v', w', hrun, hown', hgr, _, hbl⟩ := run_append_own_at (P := Try.prog) w B 26 26 24 i0 (.slice none 0 0) 1 24 Try.underlying26 hi hz0 hz1 hz2 rfl (by omega) v n xs hown ⟨g0, 0, none⟩ 1 1 [x] rfl
    (fun j u hu => by
      rcases j with _ | j
      · cases hu
        rw [add_zero_block, hg0.cell]; rfl
      · cases hu) (fun u hu => (List.mem_singleton.1 hu) ▸ hx) (by unfold maxLen; omega) (by omega) hB
  rcases ownsRow_forms' hown' with ⟨_, h0⟩ | ⟨g, cap, rfl⟩
  · omega
  · refine ⟨g, cap, w', hrun, hown', hgr, ?_⟩
    rcases hbl with h | h
    · exact .inl h.symm
    · right
      simpa [Value.ownBlock] using h
theorem ref_set40 (r : Raw) (d i l v : Value) : (msgA r d i l).setIfInBounds 40 v = msgA r d i v := by
  rw [msgA, set_row _ _ _ _ (by omega)]
  refine arr_congr fun j hj => ?_
  match j with
  | 0 => rfl
  | 1 => rfl
  | 2 => rfl
  | 3 => rfl
  | 4 => rfl
  | 5 => rfl
  | m + 6 =>
    show (if m + 6 = 40 then v else if m + 6 < 38 then bv (r.id (m + 6 - 6)) else if m + 6 = 38 then d else if m + 6 = 39 then i else l) = if m + 6 < 38 then bv (r.id (m + 6 - 6)) else if m + 6 = 38 then d else if m + 6 = 39 then i else v
    by_cases h : m + 6 = 40
    · rw [if_pos h, if_neg (by omega), if_neg (by omega), if_neg (by omega)]
    · rw [if_neg h]
      by_cases h2 : m + 6 < 38
      · rw [if_pos h2, if_pos h2]
      · rw [if_neg h2, if_neg h2]
        by_cases h3 : m + 6 = 38
        · rw [if_pos h3, if_pos h3]
        · rw [if_neg h3, if_neg h3, if_pos (by omega), if_pos (by omega)]
theorem runs_step {s x t : List UInt8} (h : take3 s = some (x, t)) : runs s = (runs t).map (x :: ·) := by
  have hne : s ≠ [] := by rintro rfl; cases h
  rw [runs, dif_neg hne]
  split
  · rename_i e; rw [h] at e; cases e
  · rename_i b t' e
    rw [h] at e
    injection e with e
    injection e with e1 e2
    rw [e1, e2]
theorem runs_stop {s : List UInt8} (hne : s ≠ []) (h : take3 s = none) : runs s = none := by
  rw [runs, dif_neg hne]
  split
  · rfl
  · rename_i b t' e
    rw [h] at e; cases e
theorem take3_drop {bs x t : List UInt8} {k : Nat} (h : take3 (bs.drop k) = some (x, t)) : t = bs.drop (k + 3 + x.length) ∧ k + 3 + x.length ≤ bs.length := by
  have e := run_take3 h
  have hl := congrArg List.length e
  rw [List.length_drop, List.length_append] at hl
  have hr : (run x).length = 3 + x.length := by rw [run, List.length_append]; rfl
  refine ⟨?_, by omega⟩
  have e2 := congrArg (List.drop (3 + x.length)) e
  rw [List.drop_drop, ← hr, List.drop_left, hr] at e2
  rw [← e2]
  congr 1
  omega
/-- The entries so far. -/
structure ListAt (w0 : World) (r : Raw) (d i : Value) (bs : List UInt8) (Z : Array Value) (k : Nat) (wr : World) (es : List (List UInt8)) (lv : Value) (vs : List Value) : Prop where
  le : k ≤ bs.length
  runs : runs bs = (runs (bs.drop k)).map (es ++ ·)
  at_ : Blk wr w0.heap.size 28 (msgA r d i lv)
  res : Blk wr (w0.heap.size + 1) 28 Z
  own : wr.ownsRow (w0.heap.size + 2) 24 1 lv es.length vs
  len : vs.length = es.length
  rd : ∀ j, j < es.length → RdB wr (fun b => w0.heap.size + 2 ≤ b ∧ b < wr.heap.size ∧ lv.ownBlock ≠ some b) (vs.getD j undef) (es.getD j [])
  size : w0.heap.size + 2 ≤ wr.heap.size
  below : Below w0.heap.size w0 wr
  few : 3 * es.length ≤ k
theorem ownsRow_heap {w w' : World} {B k n : Nat} {e : TypeId} {v : Value} {xs : List Value} (h : w.ownsRow B e k v n xs) (hb : ∀ b, v.ownBlock = some b → w'.heap[b]? = w.heap[b]?) : w'.ownsRow B e k v n xs := by
  refine ⟨h.1, ?_⟩
  rcases h.2 with h0 | ⟨g, cap, cur, h1, h2, h3, h4⟩
  · exact .inl h0
  · exact .inr ⟨g, cap, cur, h1, h2, (hb g (by rw [h1]; rfl)).trans h3, h4⟩
/-- One entry more. -/
theorem ListAt.step {w0 : World} {r : Raw} {d i : Value} {bs : List UInt8} {Z : Array Value} {k : Nat} {wr : World} {es : List (List UInt8)} {lv : Value} {vs : List Value} (h : ListAt w0 r d i bs Z k wr es lv vs) {x t : List UInt8}
    (ht : take3 (bs.drop k) = some (x, t)) {w1 w2 : World} (hb1 : Below wr.heap.size wr w1) {A : Option Addr} {c : Nat} (hrd : RdB w2 (fun b => w1.heap.size ≤ b ∧ b < w2.heap.size) (.slice A x.length c) x) (hb2 : Below w1.heap.size w1 w2) (hm : bs.length ≤ 100000000) :
    ∃ g cap w4, (Builtin.append_ #[26, 26] 26 #[lv, .slice (some ⟨w2.heap.size, 0, none⟩) 1 1]).run Try.prog (w2.alloc (.cells #[.slice A x.length c] 24)) = .ok (.slice (some ⟨g, 0, none⟩) (es.length + 1) cap) w4 ∧
      Blk w4 w0.heap.size 28 (msgA r d i lv) ∧
      ListAt w0 r d i bs Z (k + 3 + x.length) (w4.setCell ⟨w0.heap.size, 40, none⟩ (.slice (some ⟨g, 0, none⟩) (es.length + 1) cap)) (es ++ [x]) (.slice (some ⟨g, 0, none⟩) (es.length + 1) cap) (vs ++ [.slice A x.length c]) := by
  have h1s := hb1.size
  have h2s := hb2.size
  have hsz := h.size
  have hb12 : Below wr.heap.size wr w2 := hb1.trans (hb2.mono h1s)
  have hb13 : Below wr.heap.size wr (w2.alloc (.cells #[.slice A x.length c] 24)) := hb12.alloc (by omega) _
  have hown3 := ownsRow_kept h.own hb13
  obtain ⟨g, cap, w4, hrun, hown4, hgr, hbl⟩ := app_val' (by simp; omega) hown3 (.slice A x.length c) rfl (Blk.new w2 24 #[.slice A x.length c]) (by have := h.few; have := h.le; omega)
  have hbk : ∀ b, lv.ownBlock = some b → w0.heap.size + 2 ≤ b := fun b hb => (h.own.lt b hb).1
  have hat3 := h.at_.below hb13 h.at_.lt
  have hres3 := h.res.below hb13 h.res.lt
  have hat4 := hat3.grown hgr (fun e => by have := hbk _ e.symm; omega)
  have hres4 := hres3.grown hgr (fun e => by have := hbk _ e.symm; omega)
  have hg2 : w0.heap.size + 2 ≤ g := (hown4.lt g rfl).1
  have h4s := hgr.size
  simp at h4s
  have hset : (w4.setCell ⟨w0.heap.size, 40, none⟩ (.slice (some ⟨g, 0, none⟩) (es.length + 1) cap)).heap.size = w4.heap.size := by simp [World.setCell]
  obtain ⟨q1, q2⟩ := take3_drop ht
  have keep : ∀ {ok : Nat → Prop} {v : Value} {xs : List UInt8}, RdB w4 ok v xs → (∀ b, ok b → w0.heap.size + 2 ≤ b) → RdB (w4.setCell ⟨w0.heap.size, 40, none⟩ (.slice (some ⟨g, 0, none⟩) (es.length + 1) cap)) ok v xs := fun hr hk => hr.kept fun a y ha hy => (World.cell?_of_block (Below.heap_setCell w4 ⟨w0.heap.size, 40, none⟩ _ _ (by have := hk _ ha; show a.block ≠ w0.heap.size; omega))).trans hy
  have ownNew : ∀ b, b < w2.heap.size + 1 → lv.ownBlock ≠ some b → (Value.slice (some ⟨g, 0, none⟩) (es.length + 1) cap).ownBlock ≠ some b := fun b hb hne e => by
    simp only [Value.ownBlock, Option.some.injEq] at e
    rcases hbl with h' | h'
    · exact hne (by rw [h', e])
    · simp at h'; omega
  refine ⟨g, cap, w4, hrun, hat4, ⟨q2, ?_, (hat4.store 40 _).same (ref_set40 _ _ _ _ _), hres4.far (by show w0.heap.size + 1 ≠ w0.heap.size; omega) _, ?_, by simp [h.len], fun j hj => ?_, by rw [hset]; omega, ?_, by have := h.few; simp; omega⟩⟩
  · rw [h.runs, runs_step ht, q1, Option.map_map]
    congr 1
    funext y
    simp
  · have hl : (es ++ [x]).length = es.length + 1 := by simp
    rw [hl]
    exact ownsRow_heap hown4 fun b hb => Below.heap_setCell w4 ⟨w0.heap.size, 40, none⟩ _ _ (by simp only [Value.ownBlock, Option.some.injEq] at hb; show b ≠ w0.heap.size; omega)
  · by_cases hj' : j < es.length
    · rw [show (vs ++ [Value.slice A x.length c]).getD j undef = vs.getD j undef from by simp only [List.getD_eq_getElem?_getD]; rw [List.getElem?_append_left (by rw [h.len]; exact hj')],
        show (es ++ [x]).getD j [] = es.getD j [] from by simp only [List.getD_eq_getElem?_getD]; rw [List.getElem?_append_left hj']]
      have h3 := (h.rd j hj').kept (W' := w2.alloc (.cells #[.slice A x.length c] 24)) fun a y ha hy => (hb13.cell (p := a) ha.2.1).trans hy
      have h4 := h3.kept (W' := w4) fun a y ha hy => hgr.cell hy fun e => ha.2.2 e.symm
      exact (keep h4 fun b hb => hb.1).mono fun b hb => ⟨hb.1, by rw [hset]; have := hb.2.1; omega, ownNew b (by have := hb.2.1; omega) hb.2.2⟩
    · have hj2 : j = es.length := by simp at hj; omega
      subst hj2
      rw [show (vs ++ [Value.slice A x.length c]).getD es.length undef = .slice A x.length c from by simp only [List.getD_eq_getElem?_getD]; rw [List.getElem?_append_right (by rw [h.len]; omega), h.len, Nat.sub_self]; rfl,
        show (es ++ [x]).getD es.length [] = x from by simp]
      have hno : ∀ b, w1.heap.size ≤ b → lv.ownBlock ≠ some b := fun b hb e => by have := (h.own.lt b e).2; omega
      have h3 := hrd.kept (W' := w2.alloc (.cells #[.slice A x.length c] 24)) fun a y ha hy => (World.cell?_of_block (Below.heap_alloc w2 _ _ ha.2)).trans hy
      have h4 := h3.kept (W' := w4) fun a y ha hy => hgr.cell hy fun e => hno _ ha.1 e.symm
      exact (keep h4 fun b hb => by have := hb.1; omega).mono fun b hb => ⟨by have := hb.1; omega, by rw [hset]; have := hb.2; omega, ownNew b (by have := hb.2; omega) (hno b hb.1)⟩
  · exact ((h.below.trans (hb13.mono (by omega))).grown hgr (by simp; omega) (fun b hb => by have := hbk b hb; omega)).setCell (Nat.le_refl _) _
theorem msg_at40 (r : Raw) (d i l : Value) : (msgA r d i l)[40]? = some l := by rw [msgA, arr_get]; rfl
theorem ListAt.rdr {w0 : World} {r : Raw} {d i : Value} {bs : List UInt8} {Z : Array Value} {k : Nat} {wr : World} {es : List (List UInt8)} {lv : Value} {vs : List Value} (h : ListAt w0 r d i bs Z k wr es lv vs) (hm : bs.length ≤ 100000000)
    (hr : RdR w0 (fun b => b < w0.heap.size) r d i nilS) : RdR wr (fun b => b < wr.heap.size ∧ b ≠ w0.heap.size + 1) { r with list := es } d i lv := by
  have h2 := (hr.below h.below).mono (ok' := fun b => b < wr.heap.size ∧ b ≠ w0.heap.size + 1) fun b (hb : b < w0.heap.size) => ⟨Nat.lt_of_lt_of_le hb h.below.size, by omega⟩
  refine ⟨h2.data, h2.ids, ?_⟩
  rcases ownsRow_forms' h.own with ⟨rfl, h0⟩ | ⟨g, cap, rfl⟩
  · have he : es = [] := List.eq_nil_of_length_eq_zero h0
    subst he
    exact ⟨none, 0, rfl, Nat.zero_le _, fun k hk => absurd hk (by simp)⟩
  · refine ⟨some ⟨g, 0, none⟩, cap, rfl, by have := h.few; have := h.le; show es.length ≤ _; omega, fun j hj => ?_⟩
    have hj' : j < vs.length := by rw [h.len]; exact hj
    have hc := h.own.cells (g := g) rfl j vs[j] (List.getElem?_eq_getElem hj')
    refine ⟨⟨g, 0, none⟩, vs[j], rfl, ⟨(h.own.lt g rfl).2, by have := (h.own.lt g rfl).1; show g ≠ w0.heap.size + 1; omega⟩, hc, ?_⟩
    have := h.rd j hj
    rw [List.getD_eq_getElem?_getD, List.getElem?_eq_getElem hj'] at this
    exact this.mono fun b hb => ⟨hb.2.1, by have := hb.1; omega⟩
theorem ListAt.rdl {w0 : World} {r : Raw} {d i : Value} {bs : List UInt8} {Z : Array Value} {k : Nat} {wr : World} {es : List (List UInt8)} {lv : Value} {vs : List Value} (h : ListAt w0 r d i bs Z k wr es lv vs) (hm : bs.length ≤ 100000000) :
    ∃ A c, lv = .slice A es.length c ∧ es.length ≤ 140737488351232 ∧ RdP wr (fun b => w0.heap.size + 2 ≤ b ∧ b < wr.heap.size) A es := by
  have hle : es.length ≤ 140737488351232 := by have := h.few; have := h.le; omega
  rcases ownsRow_forms' h.own with ⟨rfl, h0⟩ | ⟨g, cap, rfl⟩
  · have he : es = [] := List.eq_nil_of_length_eq_zero h0
    subst he
    exact ⟨none, 0, rfl, Nat.zero_le _, fun k hk => absurd hk (by simp)⟩
  · refine ⟨some ⟨g, 0, none⟩, cap, rfl, hle, fun j hj => ?_⟩
    have hj' : j < vs.length := by rw [h.len]; exact hj
    have hc := h.own.cells (g := g) rfl j vs[j] (List.getElem?_eq_getElem hj')
    refine ⟨⟨g, 0, none⟩, vs[j], rfl, ⟨(h.own.lt g rfl).1, (h.own.lt g rfl).2⟩, hc, ?_⟩
    have := h.rd j hj
    rw [List.getD_eq_getElem?_getD, List.getElem?_eq_getElem hj'] at this
    exact this.mono fun b hb => ⟨hb.1, hb.2.1⟩
set_option maxRecDepth 100000 in
set_option maxHeartbeats 8000000 in
theorem refPut9 (r : Raw) (d i : Value) (bs : List UInt8) (hne : bs ≠ []) (hm : bs.length ≤ 100000000) (w : World) (hr : RdR w (fun b => b < w.heap.size) r d i nilS) :
    Calls Try.prog 25 #[.agg (msgA r d i nilS), .int .i64 9, .string ⟨bs.toArray⟩] w fun e w' => (runs bs = none → ∃ M, e = .returned (.tuple #[.agg M, .int .i64 20]) ∧ M.size = 41 ∧ M.all (·.oneCell') = true) ∧ (∀ es, runs bs = some es → ∃ l', e = .returned (.tuple #[.agg (msgA { r with list := es } d i l'), .int .i64 0]) ∧ (msgA { r with list := es } d i l').all (·.oneCell') = true ∧ ∃ A c, l' = .slice A es.length c ∧ es.length ≤ 140737488351232 ∧ RdP w' (fresh w w') A es) ∧ Below w.heap.size w w' := by
  have hem := str_some hne
  have hsz := ba_len bs
  have hst : ∀ (Z : Array Value) ob, ob = .cells Z 28 → ListAt w r d i bs Z 0 ((w.alloc (.cells (msgA r d i nilS) 28)).alloc ob) [] nilS [] := fun Z ob hob => by
    subst hob
    exact ⟨Nat.zero_le _, by rw [List.drop_zero]; cases runs bs <;> simp, (Blk.new _ _ _).alloc _, Blk.newAt _ _ (by simp) rfl, World.ownsRow_nil _ _ _ _, rfl, fun j hj => absurd hj (by simp), by simp, ((Below.refl _ w).alloc (Nat.le_refl _) _).alloc (by simp) _, Nat.zero_le _⟩
  have htk := fun k hk W => refTake_any bs k hk (by omega) W
  obtain ⟨S, hS⟩ : ∃ S : ByteArray, ⟨bs.toArray⟩ = S := ⟨_, rfl⟩
  obtain ⟨Z, hZ⟩ : ∃ Z, msgA (zeroRaw 0) nilS nilS nilS = Z := ⟨_, rfl⟩
  have hzs : Z.size = 41 := by rw [← hZ]; exact arr_size _ _
  have HZ := Lib.hid hZ
  have HZS := Lib.hid hzs
  obtain ⟨n, hn⟩ : ∃ n, bs.length = n := ⟨_, rfl⟩
  obtain ⟨M0, hM0⟩ : ∃ M, msgA r d i nilS = M := ⟨_, rfl⟩
  rw [hM0] at hst ⊢
  rw [hS] at hem hsz htk ⊢
  rw [hn] at hsz htk
  have HTK := Lib.hid htk
  have HST := Lib.hid (hst Z)
  have HNM := Lib.hid (And.intro hn hm)
  have HR := Lib.hid hr
  clear hst htk hS hZ hzs hr hne hM0 hm hn
  go_enter Try.func25, Try.ntmps25
  go_wp2
  go_loopw [11] (fun v wr => ∃ (k : Nat) (es : List (List UInt8)) (lv : Value) (vs : List Value), v = .int .i64 (k : Int) ∧ ListAt w r d i bs Z k wr es lv vs) (fun v _ => n - (intOf v).toNat)
  case atStart => exact ⟨0, [], nilS, [], rfl, HST.out _ (by rw [← HZ.out]; kernel_rfl)⟩
  case round =>
    obtain ⟨k, es, lv, vs, rfl, hL⟩ := hrel
    have hk := hL.le
    rw [HNM.out.1] at hk
    have hrdr := hL.rdr HNM.out.2 HR.out
    have hall := msg_all hrdr
    have hs1 : (msgA { r with list := es } d i lv).size = 41 := arr_size _ _
    have hatl : Blk wr w.heap.size 28 (msgA { r with list := es } d i lv) := hL.at_
    have hc40 : wr.cell? ⟨w.heap.size, 40, none⟩ = some lv := (hL.at_.cell 40).trans (msg_at40 r d i lv)
    have HL := Lib.hid hL
    have HC40 := Lib.hid hc40
    obtain ⟨M1, hM1⟩ : ∃ M, msgA { r with list := es } d i lv = M := ⟨_, rfl⟩
    rw [hM1] at hall hs1 hatl
    have HM1 := Lib.hid hM1
    have HS1 := Lib.hid hs1
    have HA1 := Lib.hid hall
    have HAT := Lib.hid hatl
    have HRR := Lib.hid hrdr
    clear hL hrdr hall hs1 hatl hc40 hM1
    by_cases hlt : k < n
    · have hkn : (k : Int) < (n : Int) := by omega
      have hnb : (n : Int) ≤ 100000000 := by have := HNM.out; omega
      have htk := HTK.out k hk wr
      cases ht : take3 (bs.drop k) with
      | none =>
        have HT : Hid (Calls Try.prog 24 #[.string S, .int .i64 (k : Int)] wr fun e w' => e = .returned (.tuple #[.string ⟨#[]⟩, .int .i64 (k : Int), .bool false]) ∧ Below wr.heap.size wr w') := Lib.hid (by
          refine htk.mono ?_
          rintro e w' ⟨h1, h2⟩
          unfold TakeOut at h1
          rw [ht] at h1
          exact ⟨h1, h2⟩)
        have HNO : Hid (runs bs = none) := Lib.hid (by
          rw [HL.out.runs, runs_stop (fun h => by have := congrArg List.length h; rw [List.length_drop, HNM.out.1] at this; simp at this; omega) ht]
          rfl)
        clear htk ht
        go_wp2_with (first
          | (go_at_call 24; refine HT.out.mono ?_; rintro e w1 ⟨rfl, hb1⟩; have hx1 := HAT.out.below hb1 HAT.out.lt; have hR1 := HL.out.res.below hb1 HL.out.res.lt; have HW1 := Lib.hid (HL.out.below.trans (hb1.mono HL.out.below.size)); clear hb1)
          | (guard_target = wpList _ _ _ (Oper.mk _ (.load 28 _) _ _ _ _ :: _) _ _; refine wpList_load_row rfl 28 _ rfl w.heap.size rfl 28 (M1) (0, 0) _ (hx1) Try.underlying28 rfl (by rw [HS1.out]; kernel_rfl) ?_)
          | (guard_target = wpList _ _ _ (Oper.mk _ (.store 28 _ _) _ _ _ _ :: _) _ _; refine wpList_store_arrW rfl 28 _ _ rfl (w.heap.size + 1) (M1) rfl rfl 28 _ (hR1) (by rw [HS1.out]; kernel_rfl) (by rw [HS1.out, HZS.out]) (HA1.out) ?_; intro W9 hS9 hz9 hb9 ho9))
        refine bodyPost_ret (results_cell_tmp (p := 6) (q := 7) rfl _ _ (w.heap.size + 1) 28 _ _ rfl hS9 Try.underlying28 rfl (by rw [HS1.out]; kernel_rfl)) rfl ?_
        exact ⟨fun _ => ⟨_, rfl, HS1.out, HA1.out⟩, fun es2 h => absurd h (by rw [HNO.out]; simp), HW1.out.trans (hb9.mono (by omega))⟩
      | some xt =>
        obtain ⟨x, t⟩ := xt
        have hx24 := take3_len ht
        have htd := take3_drop ht
        rw [HNM.out.1] at htd
        have HT : Hid (Calls Try.prog 24 #[.string S, .int .i64 (k : Int)] wr fun e w' => e = .returned (.tuple #[.string ⟨x.toArray⟩, .int .i64 ((k + 3 + x.length : Nat) : Int), .bool true]) ∧ Below wr.heap.size wr w') := Lib.hid (by
          refine htk.mono ?_
          rintro e w' ⟨h1, h2⟩
          unfold TakeOut at h1
          rw [ht] at h1
          exact ⟨h1, h2⟩)
        have HTT := Lib.hid ht
        have HTD := Lib.hid htd
        obtain ⟨k2, hk2⟩ : ∃ k2, k + 3 + x.length = k2 := ⟨_, rfl⟩
        rw [hk2] at HT
        have HK2 := Lib.hid hk2
        clear htk ht htd hk2
        go_wp2_with (first
          | (go_at_call 24; refine HT.out.mono ?_; rintro e w1 ⟨rfl, hb1⟩; have c40 := (hb1.cell (p := ⟨w.heap.size, 40, none⟩) HAT.out.lt).trans HC40.out; have HB1 := Lib.hid hb1; clear hb1)
          | (guard_target = wpList _ _ _ (Oper.mk _ (.convert _ _ _) _ _ _ _ :: _) _ _; refine wpList_bytes_of rfl _ rfl ⟨x.toArray⟩ rfl x rfl (by omega) ?_; intro A c w2 hrd hb2; obtain ⟨g, cap, w4, hrun, hat4, hL5⟩ := HL.out.step HTT.out HB1.out hrd hb2 HNM.out.2; have R1 := Lib.hid hrun; have kc : w4.cell? ⟨w.heap.size, 40, none⟩ = some lv := (hat4.cell 40).trans (msg_at40 r d i lv); have kf := hat4.frozen 40; have HL5 := Lib.hid hL5; clear hrun hat4 hL5 hrd hb2)
          | (at_builtin; refine wpList_append_run rfl (.tmp 105) (.tmp 108) _ _ rfl _ _ rfl rfl _ _ R1.out ?_))
        go_roundw
        case rel => exact ⟨k2, es ++ [x], _, _, rfl, by rw [← HK2.out]; exact HL5.out⟩
        case measure => have := HTD.out.2; have := HK2.out; simp [intOf]; omega
    · obtain rfl : k = n := by omega
      have HYES : Hid (runs bs = some es) := Lib.hid (by
        rw [HL.out.runs, List.drop_of_length_le (by rw [HNM.out.1]; exact Nat.le_refl _), runs, dif_pos rfl]
        simp)
      go_wp2_with (first
        | (guard_target = wpList _ _ _ (Oper.mk _ (.load 28 _) _ _ _ _ :: _) _ _; refine wpList_load_row rfl 28 _ rfl w.heap.size rfl 28 (M1) (0, 0) _ (HAT.out) Try.underlying28 rfl (by rw [HS1.out]; kernel_rfl) ?_)
        | (guard_target = wpList _ _ _ (Oper.mk _ (.store 28 _ _) _ _ _ _ :: _) _ _; refine wpList_store_arrW rfl 28 _ _ rfl (w.heap.size + 1) (M1) rfl rfl 28 _ (HL.out.res) (by rw [HS1.out]; kernel_rfl) (by rw [HS1.out, HZS.out]) (HA1.out) ?_; intro W9 hS9 hz9 hb9 ho9))
      refine bodyPost_ret (results_cell_tmp (p := 6) (q := 7) rfl _ _ (w.heap.size + 1) 28 _ _ rfl hS9 Try.underlying28 rfl (by rw [HS1.out]; kernel_rfl)) rfl ?_
      have hw9 := HL.out.below.trans (hb9.mono (by omega))
      refine ⟨fun h => absurd h (by rw [HYES.out]; simp), fun es2 h => ?_, hw9⟩
      rw [HYES.out] at h
      cases h
      obtain ⟨A, c, hA1, hA2, hA3⟩ := HL.out.rdl HNM.out.2
      exact ⟨lv, by rw [HM1.out]; rfl, by rw [HM1.out]; exact HA1.out, A, c, hA1, hA2, (hA3.kept (W' := W9) fun a y ha hy => (World.cell?_of_block (ho9 a.block (by have := ha.1; omega))).trans hy).mono fun b hb => ⟨by have := hb.1; omega, by rw [hz9]; exact hb.2⟩⟩
end Go.Proofs.Ytngceddlieimmaa
