/-
  RoundRecalls, walked. No condition.
-/
import Derived.Test.YtclhfokflagopaaRndHall
import Derived.Test.YtclhfokflagopaaRndRec
import Derived.Test.YtclhfokflagopaaRndKeys
import Derived.Test.YtclhfokflagopaaRndMRec
import Derived.Test.YtclhfokflagopaaRndOwn
namespace Go.Proofs.Ytclhfokflagopaa
open Go Go.RowKit Go.Maps

theorem act_numR {W : World} {g t : Nat} {v : ActS} (h : Blk W g t (actA v)) : W.cell? ⟨g, 2, none⟩ = some (.int .i64 v.num) := by rw [h.cell]; rfl
theorem act_roundR {W : World} {g t : Nat} {v : ActS} (h : Blk W g t (actA v)) : W.cell? ⟨g, 1, none⟩ = some (.int .i64 v.round) := by rw [h.cell]; rfl
theorem OwnA.sliceR {b nl : Nat} {w : World} {v : Value} {l : List ActS} (h : OwnA b w v l) (hn : l.length = nl) : ∃ A c, v = .slice A nl c := by
  obtain ⟨_, Aq, c, h1, _⟩ := h.rd
  exact ⟨Aq, c, by rw [h1, hn]⟩
theorem ki_lits {l : List UInt8} (h : IdOk l) : ∃ ls, Try.prog.keyLits (Try.prog.types.size + 1) 24 (idL l) = some ls := by
  obtain ⟨kl, hk⟩ := ki_some h
  unfold keyOf at hk
  simp only [Try.underlying24] at hk
  split at hk
  · rw [Option.map_eq_some_iff] at hk
    obtain ⟨ls, hls, _⟩ := hk
    exact ⟨ls, hls⟩
  · cases hk
theorem id_keyAt : Try.prog.keyTypeAt 2 24 = true := by kernel_rfl
/-- Two rows of two IDs that are the same are not unlike. -/
theorem two_neq {a b : List UInt8} (ha : IdOk a) (hb : IdOk b) (w : World) : (binOp .neq 100 (.agg (twoL a b).toArray) (.agg (twoL a b).toArray)).run Try.prog w = .ok (.bool false) w := by
  obtain ⟨la, hla⟩ := ki_lits ha
  obtain ⟨lb, hlb⟩ := ki_lits hb
  have h32 : (idL a).length = 32 := idL_length ha
  have h33 : (idL b).length = 32 := idL_length hb
  have hh : [0, 1].mapM (fun i => Try.prog.keyLits (Try.prog.types.size + 1) 24 (((twoL a b).toArray.toList.drop (i * Try.prog.cellsOf 24)).take (Try.prog.cellsOf 24))) = some [la, lb] := by
    rw [ki_cells]
    have e0 : ((twoL a b).toArray.toList.drop (0 * 32)).take 32 = idL a := by
      show ((idL a ++ idL b).drop 0).take 32 = _
      rw [List.drop_zero, ← h32, List.take_left]
    have e1 : ((twoL a b).toArray.toList.drop (1 * 32)).take 32 = idL b := by
      show ((idL a ++ idL b).drop 32).take 32 = _
      rw [← h32, List.drop_left, h32, ← h33, List.take_length]
    rw [List.mapM_cons, List.mapM_cons, e0, e1, hla, hlb]
    rfl
  obtain ⟨r, hr, hiff⟩ := run_eqItems_deep (w := w) 9999 (run_equalIn_deep 9997 2 24 id_keyAt) _ _ [0, 1] _ _ hh hh
  have hrt : r = true := hiff.2 rfl
  subst hrt
  cases hi : Try.prog.info? 24 with
  | none => have := id_info; simp [hi] at this
  | some i =>
    rw [run_neq_struct, run_equalIn_array (w := w) 9999 _ _ Try.underlying100 hi, show List.range 2 = [0, 1] from rfl, hr]
    rfl
theorem two_guard (x y : Operand) (l m : List Value) (w : World) : (eqGuard .neq 100 x y (.agg l.toArray) (.agg m.toArray)).run Try.prog w = .ok () w := by
  unfold eqGuard
  simp [go_sem]
/-- One of two IDs side by side, loaded. -/
theorem load_two0 {W : World} {g t : Nat} {a b : List UInt8} (h : Blk W g t (twoL a b).toArray) (ha : IdOk a) (_hb : IdOk b) : (Instr.loadAt 24 (.pointer (some ⟨g, 0, none⟩))).run Try.prog W = .ok (idv a) W :=
  run_load_id W _ _ ha fun j hj => by
    rw [show (⟨g, 0, none⟩ : Addr).add j = ⟨g, j, none⟩ by (simp [Addr.add]; try (intro h; exact h.symm)), h.cell]
    have h32 : (idL a).length = 32 := idL_length ha
    unfold twoL
    rw [List.getElem?_toArray, List.getElem?_append_left (by omega)]
    unfold IdOk at ha
    unfold idL
    rw [List.getElem?_map, List.getElem?_eq_getElem (by omega), List.getD_eq_getElem?_getD, List.getElem?_eq_getElem (by omega)]
    rfl
theorem load_two1 {W : World} {g t : Nat} {a b : List UInt8} (h : Blk W g t (twoL a b).toArray) (ha : IdOk a) (hb : IdOk b) : (Instr.loadAt 24 (.pointer (some ⟨g, 32, none⟩))).run Try.prog W = .ok (idv b) W :=
  run_load_id W _ _ hb fun j hj => by
    rw [show (⟨g, 32, none⟩ : Addr).add j = ⟨g, 32 + j, none⟩ by simp [Addr.add], h.cell]
    have h32 : (idL a).length = 32 := idL_length ha
    unfold twoL
    rw [List.getElem?_toArray, List.getElem?_append_right (by omega), h32, Nat.add_sub_cancel_left]
    unfold IdOk at hb
    unfold idL
    rw [List.getElem?_map, List.getElem?_eq_getElem (by omega), List.getD_eq_getElem?_getD, List.getElem?_eq_getElem (by omega)]
    rfl
/-- On RoundRecalls' way: one who goes along, and one who recalls. -/
structure RcI (w : World) (B B2 : Nat) (x y : RB) (wr : World) : Prop where
  hall : HallAt w.heap.size wr [x, y]
  base : Below w.heap.size w wr
  xB : x.B = B
  yB : y.B = B2
theorem RcI.below {w : World} {B B2 : Nat} {x y : RB} {wr w' : World} (h : RcI w B B2 x y wr) (hb : Below wr.heap.size wr w') : RcI w B B2 x y w' := ⟨h.hall.below hb, h.base.trans (hb.mono h.base.size), h.xB, h.yB⟩
theorem RcI.x {w : World} {B B2 : Nat} {x y : RB} {wr : World} (h : RcI w B B2 x y wr) : RoundAt wr B x.C x.M x.n x.kv x.s := h.xB ▸ h.hall.at_ 0 x rfl
theorem RcI.y {w : World} {B B2 : Nat} {x y : RB} {wr : World} (h : RcI w B B2 x y wr) : RoundAt wr B2 y.C y.M y.n y.kv y.s := h.yB ▸ h.hall.at_ 1 y rfl
theorem RcI.give {w : World} {B B2 : Nat} {x y : RB} {wr : World} (h : RcI w B B2 x y wr) (hn : x.n + 202 < maxLen) (i : InS) (hi : InSOk i) (h6 : i.kind ≠ 6) : Calls Try.prog 34 #[.pointer (some ⟨B, 0, none⟩), .agg (innA i)] wr fun e w' => ∃ v x', e = .returned v ∧ OwnA wr.heap.size w' v (giveA x.s i) ∧ RcI w B B2 x' y w' ∧ x'.s = giveS x.s i ∧ x'.n = x.n + 202 := by
  obtain ⟨hh, hb, rfl, hy⟩ := h
  refine (give_any (hh.at_ 0 x rfl) i hi hn h6).mono fun e w' hd => ?_
  obtain ⟨v, kv', h1, h2, h3, h4, _⟩ := Done.hall hh hb.size (k := 0) rfl hd
  exact ⟨v, ⟨x.B, x.C, x.M, x.n + 202, kv', giveS x.s i⟩, h1, h2, ⟨h3, h4.base hb hh, rfl, hy⟩, rfl, rfl⟩
theorem RcI.give2 {w : World} {B B2 : Nat} {x y : RB} {wr : World} (h : RcI w B B2 x y wr) (hn : y.n + 202 < maxLen) (i : InS) (hi : InSOk i) (h6 : i.kind ≠ 6) : Calls Try.prog 34 #[.pointer (some ⟨B2, 0, none⟩), .agg (innA i)] wr fun e w' => ∃ v y', e = .returned v ∧ OwnA wr.heap.size w' v (giveA y.s i) ∧ RcI w B B2 x y' w' ∧ y'.s = giveS y.s i ∧ y'.n = y.n + 202 := by
  obtain ⟨hh, hb, hx, rfl⟩ := h
  refine (give_any (hh.at_ 1 y rfl) i hi hn h6).mono fun e w' hd => ?_
  obtain ⟨v, kv', h1, h2, h3, h4, _⟩ := Done.hall hh hb.size (k := 1) rfl hd
  exact ⟨v, ⟨y.B, y.C, y.M, y.n + 202, kv', giveS y.s i⟩, h1, h2, ⟨h3, h4.base hb hh, hx, rfl⟩, rfl, rfl⟩
theorem RcI.recall {w : World} {B B2 : Nat} {x y : RB} {wr : World} (h : RcI w B B2 x y wr) (hn : y.n < maxLen) (a : ActS) (ha : ActOk a) : Calls Try.prog 46 #[.pointer (some ⟨B2, 0, none⟩), .agg (actA a)] wr fun e w' => ∃ v y', e = .returned v ∧ RcI w B B2 x y' w' ∧ y'.s = recS y.s a ∧ y'.n = y.n + 1 ∧ (∀ g, y'.has g → y.has g) ∧ ∀ b v l, OwnA b wr v l → (∀ g, y.has g → g < b) → OwnA b w' v l := by
  obtain ⟨hh, hb, hx, rfl⟩ := h
  refine (recall_any (hh.at_ 1 y rfl) a ha hn).mono fun e w' ⟨⟨v, h1⟩, h2, h3⟩ => ?_
  obtain ⟨q1, q2, _⟩ := hh.chg hb.size (k := 1) (x := y) rfl h2 h3
  exact ⟨v, ⟨y.B, y.C, y.M, y.n + 1, y.kv, recS y.s a⟩, h1, ⟨q1, q2.base hb hh, hx, rfl⟩, rfl, rfl, fun g hg => hg, fun b v l ho hlt => ho.chg h3 (hlt _ (.inl rfl)) (hlt _ (.inr (.inr (.inl rfl)))) fun g hg => hlt g (.inr (.inr (.inr hg)))⟩
theorem RcI.own2 {w : World} {B B2 : Nat} {x y : RB} {wr : World} (h : RcI w B B2 x y wr) (ht : TwinI x.s y.s) (r : Int) (hr : wfi r) : Calls Try.prog 48 #[.pointer (some ⟨B2, 0, none⟩), .int .i64 r] wr fun e w' => e = .returned (.agg (twoL ((x.s.votes r 0 x.s.me).getD zeroId) ((x.s.votes r 1 x.s.me).getD zeroId)).toArray) ∧ Below wr.heap.size wr w' := by
  have := own_any h.y r hr
  rwa [ht.me, ht.votes, ht.votes] at this
theorem RcI.lock2 {w : World} {B B2 : Nat} {x y : RB} {wr : World} (h : RcI w B B2 x y wr) (ht : TwinI x.s y.s) : Calls Try.prog 47 #[.pointer (some ⟨B2, 0, none⟩)] wr fun e w' => e = .returned (.tuple #[.int .i64 x.s.lockR, idv x.s.lock]) ∧ Below wr.heap.size wr w' := by
  have := lock_any h.y
  rwa [ht.lockR, ht.lock] at this
theorem twin_kept {s g : RdS} (h : TwinI s g) : KeptV (fun r k => s.votes r k s.me) s.me g := ⟨h.me, fun r k hh => by rw [h.votes r k]; exact hh⟩
set_option maxRecDepth 100000 in
set_option maxHeartbeats 8000000 in
theorem recalls_bad (a b c : Int) (_ha : wfi c) (A : Option Addr) (mm cc : Nat) (L : List InS) (D : Option Addr) (m2 cd : Nat) (L2 : List InS) (w : World) (hr : RdG w w.heap.size (.slice A mm cc) L) (hl : L.length = mm) (hr2 : RdG w w.heap.size (.slice D m2 cd) L2) (hl2 : L2.length = m2) (hc : ¬ CanR a b c) : Calls Try.prog 12 #[(.agg #[.int .i64 a, .int .i64 b, .int .i64 c]), .slice A mm cc, .slice D m2 cd] w fun e w' => e = .returned (.bool true) ∧ Below w.heap.size w w' := by
  obtain ⟨W0, hW⟩ : ∃ W0, w.alloc (.cells #[.int .i64 a, .int .i64 b, .int .i64 c] 53) = W0 := ⟨_, rfl⟩
  have hb0 : Below w.heap.size w W0 := by rw [← hW]; exact (Below.refl _ _).alloc (Nat.le_refl _) _
  have k0 : Blk W0 w.heap.size 53 #[.int .i64 a, .int .i64 b, .int .i64 c] := by rw [← hW]; exact Blk.new _ _ _
  have HB0 := Lib.hid hb0
  have HK0 := Lib.hid k0
  have HRW := Lib.hid hr
  have HL := Lib.hid hl
  have HRW2 := Lib.hid hr2
  have HL2 := Lib.hid hl2
  have HNW := Lib.hid fun W => newR_bad a b c W hc
  clear hr hl hr2 hl2 hb0 k0 hc
  go_enter Try.func12, Try.ntmps12
  go_upto_region 3 with (go_at_call 32; refine (agrees_any _).mono ?_; rintro e W1 ⟨rfl, hb1⟩; have HB1 := Lib.hid (HB0.out.trans (hb1.mono HB0.out.size)); have HK1 := Lib.hid (HK0.out.below hb1 HK0.out.lt); clear hb1)
  have c0 : W1.cell? ⟨w.heap.size, 0, none⟩ = some (.int .i64 a) := by rw [HK1.out.cell]; rfl
  have c1 : W1.cell? ⟨w.heap.size, 1, none⟩ = some (.int .i64 b) := by rw [HK1.out.cell]; rfl
  have c2 : W1.cell? ⟨w.heap.size, 2, none⟩ = some (.int .i64 c) := by rw [HK1.out.cell]; rfl
  go_upto_region 4 with (go_at_call 33; refine (HNW.out _).mono ?_; rintro e W2 ⟨rfl, hb2⟩; have HB2 := Lib.hid hb2; clear hb2)
  clear c0 c1 c2
  have c0 : W2.cell? ⟨w.heap.size, 0, none⟩ = some (.int .i64 a) := by rw [(HK1.out.below HB2.out HK1.out.lt).cell]; rfl
  have c1 : W2.cell? ⟨w.heap.size, 1, none⟩ = some (.int .i64 b) := by rw [(HK1.out.below HB2.out HK1.out.lt).cell]; rfl
  have c2 : W2.cell? ⟨w.heap.size, 2, none⟩ = some (.int .i64 c) := by rw [(HK1.out.below HB2.out HK1.out.lt).cell]; rfl
  go_upto_region 5 with (go_at_call 33; refine (HNW.out _).mono ?_; rintro e W3 ⟨rfl, hb3⟩; have HB3 := Lib.hid hb3; clear hb3)
  clear c0 c1 c2
  go_wp2_with fail
  go_ret
  exact ⟨rfl, HB1.out.trans ((HB2.out.trans (HB3.out.mono HB2.out.size)).mono HB1.out.size)⟩
set_option maxRecDepth 100000 in
set_option maxHeartbeats 8000000 in
theorem recalls_long1 (a b c : Int) (ha : wfi c) (A : Option Addr) (mm cc : Nat) (L : List InS) (D : Option Addr) (m2 cd : Nat) (L2 : List InS) (w : World) (hr : RdG w w.heap.size (.slice A mm cc) L) (hl : L.length = mm) (hr2 : RdG w w.heap.size (.slice D m2 cd) L2) (hl2 : L2.length = m2) (hc : CanR a b c) (hm : 60 < mm) : Calls Try.prog 12 #[(.agg #[.int .i64 a, .int .i64 b, .int .i64 c]), .slice A mm cc, .slice D m2 cd] w fun e w' => e = .returned (.bool true) ∧ Below w.heap.size w w' := by
  obtain ⟨W0, hW⟩ : ∃ W0, w.alloc (.cells #[.int .i64 a, .int .i64 b, .int .i64 c] 53) = W0 := ⟨_, rfl⟩
  have hb0 : Below w.heap.size w W0 := by rw [← hW]; exact (Below.refl _ _).alloc (Nat.le_refl _) _
  have k0 : Blk W0 w.heap.size 53 #[.int .i64 a, .int .i64 b, .int .i64 c] := by rw [← hW]; exact Blk.new _ _ _
  have HB0 := Lib.hid hb0
  have HK0 := Lib.hid k0
  have HRW := Lib.hid hr
  have HL := Lib.hid hl
  have HRW2 := Lib.hid hr2
  have HL2 := Lib.hid hl2
  have HCN : Hid (0 ≤ faults a ∧ 0 ≤ b ∧ b < a ∧ 0 ≤ c ∧ wfi c) := Lib.hid ⟨hc.1, hc.2.1, hc.2.2.1, hc.2.2.2, ha⟩
  have hmi : (60 : Int) < (mm : Int) := by omega
  clear hr hl hr2 hl2 hb0 k0 hc
  go_enter Try.func12, Try.ntmps12
  go_upto_region 3 with (go_at_call 32; refine (agrees_any _).mono ?_; rintro e W1 ⟨rfl, hb1⟩; have HB1 := Lib.hid (HB0.out.trans (hb1.mono HB0.out.size)); have HK1 := Lib.hid (HK0.out.below hb1 HK0.out.lt); clear hb1)
  have c0 : W1.cell? ⟨w.heap.size, 0, none⟩ = some (.int .i64 a) := by rw [HK1.out.cell]; rfl
  have c1 : W1.cell? ⟨w.heap.size, 1, none⟩ = some (.int .i64 b) := by rw [HK1.out.cell]; rfl
  have c2 : W1.cell? ⟨w.heap.size, 2, none⟩ = some (.int .i64 c) := by rw [HK1.out.cell]; rfl
  go_upto_region 4 with (go_at_call 33; refine (newR_good a b c _ HCN.out.1 (by have := HCN.out.2.1; omega) (by have := HCN.out.2.2.1; omega) (by have := HCN.out.2.2.2.1; omega) HCN.out.2.2.2.2).mono ?_; rintro e W2 ⟨B, C, M, rfl, hra1, hbw1, h11, h21, h31⟩; have HRA1 := Lib.hid hra1; have HB2 := Lib.hid hbw1; have HGE1 := Lib.hid (And.intro h11 (And.intro h21 h31)); clear hra1 hbw1 h11 h21 h31)
  clear c0 c1 c2
  have c0 : W2.cell? ⟨w.heap.size, 0, none⟩ = some (.int .i64 a) := by rw [(HK1.out.below HB2.out HK1.out.lt).cell]; rfl
  have c1 : W2.cell? ⟨w.heap.size, 1, none⟩ = some (.int .i64 b) := by rw [(HK1.out.below HB2.out HK1.out.lt).cell]; rfl
  have c2 : W2.cell? ⟨w.heap.size, 2, none⟩ = some (.int .i64 c) := by rw [(HK1.out.below HB2.out HK1.out.lt).cell]; rfl
  go_upto_region 5 with (go_at_call 33; refine (newR_good a b c _ HCN.out.1 (by have := HCN.out.2.1; omega) (by have := HCN.out.2.2.1; omega) (by have := HCN.out.2.2.2.1; omega) HCN.out.2.2.2.2).mono ?_; rintro e W3 ⟨B2, C2, M2, rfl, hra2, hbw2, h12, h22, h32⟩; have HRA2 := Lib.hid hra2; have HB3 := Lib.hid hbw2; have HGE2 := Lib.hid (And.intro h12 (And.intro h22 h32)); clear hra2 hbw2 h12 h22 h32)
  clear c0 c1 c2
  have HRC : Hid (RcI w B B2 ⟨B, C, M, 0, .slice none 0 0, newS a.toNat b c⟩ ⟨B2, C2, M2, 0, .slice none 0 0, newS a.toNat b c⟩ W3) := Lib.hid ⟨by
    have hb12 : w.heap.size ≤ W2.heap.size := Nat.le_trans HB1.out.size HB2.out.size
    have h0 := hall_nil w.heap.size W1
    have h1 := h0.add HB2.out HB1.out.size HRA1.out HGE1.out.1 HGE1.out.2.1 HGE1.out.2.2
    exact h1.add HB3.out hb12 HRA2.out HGE2.out.1 HGE2.out.2.1 HGE2.out.2.2, HB1.out.trans ((HB2.out.trans (HB3.out.mono HB2.out.size)).mono HB1.out.size), rfl, rfl⟩
  go_wp2_with fail
  go_ret
  exact ⟨rfl, HRC.out.base⟩
set_option maxRecDepth 100000 in
set_option maxHeartbeats 8000000 in
theorem recalls_long2 (a b c : Int) (ha : wfi c) (A : Option Addr) (mm cc : Nat) (L : List InS) (D : Option Addr) (m2 cd : Nat) (L2 : List InS) (w : World) (hr : RdG w w.heap.size (.slice A mm cc) L) (hl : L.length = mm) (hr2 : RdG w w.heap.size (.slice D m2 cd) L2) (hl2 : L2.length = m2) (hc : CanR a b c) (hm : mm ≤ 60) (hm2 : 60 < m2) : Calls Try.prog 12 #[(.agg #[.int .i64 a, .int .i64 b, .int .i64 c]), .slice A mm cc, .slice D m2 cd] w fun e w' => e = .returned (.bool true) ∧ Below w.heap.size w w' := by
  obtain ⟨W0, hW⟩ : ∃ W0, w.alloc (.cells #[.int .i64 a, .int .i64 b, .int .i64 c] 53) = W0 := ⟨_, rfl⟩
  have hb0 : Below w.heap.size w W0 := by rw [← hW]; exact (Below.refl _ _).alloc (Nat.le_refl _) _
  have k0 : Blk W0 w.heap.size 53 #[.int .i64 a, .int .i64 b, .int .i64 c] := by rw [← hW]; exact Blk.new _ _ _
  have HB0 := Lib.hid hb0
  have HK0 := Lib.hid k0
  have HRW := Lib.hid hr
  have HL := Lib.hid hl
  have HRW2 := Lib.hid hr2
  have HL2 := Lib.hid hl2
  have HCN : Hid (0 ≤ faults a ∧ 0 ≤ b ∧ b < a ∧ 0 ≤ c ∧ wfi c) := Lib.hid ⟨hc.1, hc.2.1, hc.2.2.1, hc.2.2.2, ha⟩
  have hmi : ¬ (60 : Int) < (mm : Int) := by omega
  have hmj : (60 : Int) < (m2 : Int) := by omega
  clear hr hl hr2 hl2 hb0 k0 hc
  go_enter Try.func12, Try.ntmps12
  go_upto_region 3 with (go_at_call 32; refine (agrees_any _).mono ?_; rintro e W1 ⟨rfl, hb1⟩; have HB1 := Lib.hid (HB0.out.trans (hb1.mono HB0.out.size)); have HK1 := Lib.hid (HK0.out.below hb1 HK0.out.lt); clear hb1)
  have c0 : W1.cell? ⟨w.heap.size, 0, none⟩ = some (.int .i64 a) := by rw [HK1.out.cell]; rfl
  have c1 : W1.cell? ⟨w.heap.size, 1, none⟩ = some (.int .i64 b) := by rw [HK1.out.cell]; rfl
  have c2 : W1.cell? ⟨w.heap.size, 2, none⟩ = some (.int .i64 c) := by rw [HK1.out.cell]; rfl
  go_upto_region 4 with (go_at_call 33; refine (newR_good a b c _ HCN.out.1 (by have := HCN.out.2.1; omega) (by have := HCN.out.2.2.1; omega) (by have := HCN.out.2.2.2.1; omega) HCN.out.2.2.2.2).mono ?_; rintro e W2 ⟨B, C, M, rfl, hra1, hbw1, h11, h21, h31⟩; have HRA1 := Lib.hid hra1; have HB2 := Lib.hid hbw1; have HGE1 := Lib.hid (And.intro h11 (And.intro h21 h31)); clear hra1 hbw1 h11 h21 h31)
  clear c0 c1 c2
  have c0 : W2.cell? ⟨w.heap.size, 0, none⟩ = some (.int .i64 a) := by rw [(HK1.out.below HB2.out HK1.out.lt).cell]; rfl
  have c1 : W2.cell? ⟨w.heap.size, 1, none⟩ = some (.int .i64 b) := by rw [(HK1.out.below HB2.out HK1.out.lt).cell]; rfl
  have c2 : W2.cell? ⟨w.heap.size, 2, none⟩ = some (.int .i64 c) := by rw [(HK1.out.below HB2.out HK1.out.lt).cell]; rfl
  go_upto_region 5 with (go_at_call 33; refine (newR_good a b c _ HCN.out.1 (by have := HCN.out.2.1; omega) (by have := HCN.out.2.2.1; omega) (by have := HCN.out.2.2.2.1; omega) HCN.out.2.2.2.2).mono ?_; rintro e W3 ⟨B2, C2, M2, rfl, hra2, hbw2, h12, h22, h32⟩; have HRA2 := Lib.hid hra2; have HB3 := Lib.hid hbw2; have HGE2 := Lib.hid (And.intro h12 (And.intro h22 h32)); clear hra2 hbw2 h12 h22 h32)
  clear c0 c1 c2
  have HRC : Hid (RcI w B B2 ⟨B, C, M, 0, .slice none 0 0, newS a.toNat b c⟩ ⟨B2, C2, M2, 0, .slice none 0 0, newS a.toNat b c⟩ W3) := Lib.hid ⟨by
    have hb12 : w.heap.size ≤ W2.heap.size := Nat.le_trans HB1.out.size HB2.out.size
    have h0 := hall_nil w.heap.size W1
    have h1 := h0.add HB2.out HB1.out.size HRA1.out HGE1.out.1 HGE1.out.2.1 HGE1.out.2.2
    exact h1.add HB3.out hb12 HRA2.out HGE2.out.1 HGE2.out.2.1 HGE2.out.2.2, HB1.out.trans ((HB2.out.trans (HB3.out.mono HB2.out.size)).mono HB1.out.size), rfl, rfl⟩
  go_wp2_with fail
  go_ret
  exact ⟨rfl, HRC.out.base⟩
theorem two_all (a b : List UInt8) : (twoL a b).toArray.all (·.oneCell') = true := by
  rw [Array.all_eq_true_iff_forall_mem]
  intro x hx
  exact twoL_one a b x (by simpa using hx)
theorem wpList_store_two {ops : Array Oper} {rest : List Oper} {o : Oper} {a : Act} {w : World} {Q : Exit → Act → World → Prop} (hgd : o.guard = none) (x y : Operand) (ho : o.op = .store 100 x y) (g : Nat) (p q : List UInt8) (hx : a.eval x = .pointer (some ⟨g, 0, none⟩)) (hy : a.eval y = .agg (twoL p q).toArray) (hp : IdOk p) (hq : IdOk q)
    (t : TypeId) (old : Array Value) (hg : Blk w g t old) (hold : old.size = 64)
    (h : ∀ w', Blk w' g t (twoL p q).toArray → w'.heap.size = w.heap.size → Below g w w' → (∀ b, b ≠ g → w'.heap[b]? = w.heap[b]?) → wpList Try.prog ops Q rest (a.put o.dst undef) w') : wpList Try.prog ops Q (o :: rest) a w :=
  wpList_store_arrW hgd 100 x y ho g (twoL p q).toArray hx hy t old hg (by rw [List.size_toArray, twoL_length hp hq]; exact two_info) (by rw [hold, List.size_toArray, twoL_length hp hq]) (two_all p q) h
set_option maxRecDepth 100000 in
set_option maxHeartbeats 8000000 in
theorem recalls_loop (a b c : Int) (ha : wfi c) (A : Option Addr) (mm cc : Nat) (L : List InS) (D : Option Addr) (m2 cd : Nat) (L2 : List InS) (w : World) (hr : RdG w w.heap.size (.slice A mm cc) L) (hl : L.length = mm) (hr2 : RdG w w.heap.size (.slice D m2 cd) L2) (hl2 : L2.length = m2) (hc : CanR a b c) (hm : mm ≤ 60) (hm2 : m2 ≤ 60) : Calls Try.prog 12 #[(.agg #[.int .i64 a, .int .i64 b, .int .i64 c]), .slice A mm cc, .slice D m2 cd] w fun e w' => e = .returned (.bool true) ∧ Below w.heap.size w w' := by
  obtain ⟨W0, hW⟩ : ∃ W0, w.alloc (.cells #[.int .i64 a, .int .i64 b, .int .i64 c] 53) = W0 := ⟨_, rfl⟩
  have hb0 : Below w.heap.size w W0 := by rw [← hW]; exact (Below.refl _ _).alloc (Nat.le_refl _) _
  have k0 : Blk W0 w.heap.size 53 #[.int .i64 a, .int .i64 b, .int .i64 c] := by rw [← hW]; exact Blk.new _ _ _
  have HB0 := Lib.hid hb0
  have HK0 := Lib.hid k0
  have HRW := Lib.hid hr
  have HL := Lib.hid hl
  have HRW2 := Lib.hid hr2
  have HL2 := Lib.hid hl2
  have HCN : Hid (0 ≤ faults a ∧ 0 ≤ b ∧ b < a ∧ 0 ≤ c ∧ wfi c) := Lib.hid ⟨hc.1, hc.2.1, hc.2.2.1, hc.2.2.2, ha⟩
  have hmi : ¬ (60 : Int) < (mm : Int) := by omega
  have hmj : ¬ (60 : Int) < (m2 : Int) := by omega
  have HM := Lib.hid hm
  have HM2 := Lib.hid hm2
  clear hr hl hr2 hl2 hb0 k0 hc hm hm2
  go_enter Try.func12, Try.ntmps12
  go_upto_region 3 with (go_at_call 32; refine (agrees_any _).mono ?_; rintro e W1 ⟨rfl, hb1⟩; have HB1 := Lib.hid (HB0.out.trans (hb1.mono HB0.out.size)); have HK1 := Lib.hid (HK0.out.below hb1 HK0.out.lt); clear hb1)
  have c0 : W1.cell? ⟨w.heap.size, 0, none⟩ = some (.int .i64 a) := by rw [HK1.out.cell]; rfl
  have c1 : W1.cell? ⟨w.heap.size, 1, none⟩ = some (.int .i64 b) := by rw [HK1.out.cell]; rfl
  have c2 : W1.cell? ⟨w.heap.size, 2, none⟩ = some (.int .i64 c) := by rw [HK1.out.cell]; rfl
  go_upto_region 4 with (go_at_call 33; refine (newR_good a b c _ HCN.out.1 (by have := HCN.out.2.1; omega) (by have := HCN.out.2.2.1; omega) (by have := HCN.out.2.2.2.1; omega) HCN.out.2.2.2.2).mono ?_; rintro e W2 ⟨B, C, M, rfl, hra1, hbw1, h11, h21, h31⟩; have HRA1 := Lib.hid hra1; have HB2 := Lib.hid hbw1; have HGE1 := Lib.hid (And.intro h11 (And.intro h21 h31)); clear hra1 hbw1 h11 h21 h31)
  clear c0 c1 c2
  have c0 : W2.cell? ⟨w.heap.size, 0, none⟩ = some (.int .i64 a) := by rw [(HK1.out.below HB2.out HK1.out.lt).cell]; rfl
  have c1 : W2.cell? ⟨w.heap.size, 1, none⟩ = some (.int .i64 b) := by rw [(HK1.out.below HB2.out HK1.out.lt).cell]; rfl
  have c2 : W2.cell? ⟨w.heap.size, 2, none⟩ = some (.int .i64 c) := by rw [(HK1.out.below HB2.out HK1.out.lt).cell]; rfl
  go_upto_region 5 with (go_at_call 33; refine (newR_good a b c _ HCN.out.1 (by have := HCN.out.2.1; omega) (by have := HCN.out.2.2.1; omega) (by have := HCN.out.2.2.2.1; omega) HCN.out.2.2.2.2).mono ?_; rintro e W3 ⟨B2, C2, M2, rfl, hra2, hbw2, h12, h22, h32⟩; have HRA2 := Lib.hid hra2; have HB3 := Lib.hid hbw2; have HGE2 := Lib.hid (And.intro h12 (And.intro h22 h32)); clear hra2 hbw2 h12 h22 h32)
  clear c0 c1 c2
  have HRC : Hid (RcI w B B2 ⟨B, C, M, 0, .slice none 0 0, newS a.toNat b c⟩ ⟨B2, C2, M2, 0, .slice none 0 0, newS a.toNat b c⟩ W3) := Lib.hid ⟨by
    have hb12 : w.heap.size ≤ W2.heap.size := Nat.le_trans HB1.out.size HB2.out.size
    have h0 := hall_nil w.heap.size W1
    have h1 := h0.add HB2.out HB1.out.size HRA1.out HGE1.out.1 HGE1.out.2.1 HGE1.out.2.2
    exact h1.add HB3.out hb12 HRA2.out HGE2.out.1 HGE2.out.2.1 HGE2.out.2.2, HB1.out.trans ((HB2.out.trans (HB3.out.mono HB2.out.size)).mono HB1.out.size), rfl, rfl⟩
  go_upto_region 7 with fail
  clear hmi hmj
  go_upto_region 8 with fail
  go_loopw [73] (fun s73 wr => ∃ (j : Nat) (x y : RB), j ≤ mm ∧ s73 = .int .i64 (j : Int) ∧ RcI w B B2 x y wr ∧ TwinI x.s y.s ∧ x.n ≤ 202 * j ∧ y.n ≤ 1000000 * j) (fun s73 _ => mm - (intOf s73).toNat)
  case atStart => exact ⟨0, _, _, Nat.zero_le _, rfl, HRC.out, new_twin _ _ _, Nat.zero_le _, Nat.zero_le _⟩
  case round =>
    obtain ⟨j, x, y, hj, rfl, hrj, htw, hxn, hyn⟩ := hrel
    have HRJ := Lib.hid hrj
    have HTW := Lib.hid htw
    have HXN := Lib.hid hxn
    have HYN := Lib.hid hyn
    clear hrj htw hxn hyn
    by_cases hlt : j < mm
    · skip
      have hji : (j : Int) < (mm : Int) := by omega
      have hj0 : (0 : Int) ≤ (j : Int) := by omega
      have HJL : Hid (j < 60) := Lib.hid (by have := HM.out; omega)
      obtain ⟨i, hi⟩ : ∃ i, L[j]? = some i := ⟨_, List.getElem?_eq_getElem (by rw [HL.out]; exact hlt)⟩
      obtain ⟨ad, c', he, hok, _, hld⟩ := HRW.out.here hi
      rw [HL.out] at he
      obtain ⟨rfl, -, rfl⟩ := Value.slice.inj he
      have HOK := Lib.hid hok
      have HLD := Lib.hid hld
      have HBW := Lib.hid HRJ.out.base
      clear hi he hok hld
      go_upto_region 10 with (first
        | (guard_target = wpList _ _ _ (Oper.mk _ (.load 67 _) _ _ _ _ :: _) _ _; refine wpList_load_inn (by rfl) _ rfl (ad.add (j * 37)) i rfl (HLD.out _ HBW.out) ?_)
        | (guard_target = wpList _ _ _ (Oper.mk _ (.store 67 _ _) _ _ _ _ :: _) _ _; refine wpList_store_inn rfl _ _ rfl wr.heap.size i rfl rfl HOK.out 67 _ (Blk.newAt _ _ rfl rfl) rfl ?_; intro W9 hS9 hz9 hb9 hk9; have HS9 := Lib.hid hS9; have HB9 := Lib.hid (((Below.refl _ wr).alloc (Nat.le_refl _) _).trans hb9); clear hS9 hz9 hb9 hk9))
      have HR9 := Lib.hid (HRJ.out.below HB9.out)
      have ci : W9.cell? ⟨wr.heap.size, 0, none⟩ = some (.int .i64 i.kind) := by rw [HS9.out.cell]; rfl
      by_cases h6 : i.kind = 6
      · rw [h6] at ci
        clear h6
        go_wp2_with fail
        go_roundw
        case rel => exact ⟨j + 1, x, y, hlt, by go_num, HR9.out, HTW.out, by have := HXN.out; omega, by have := HYN.out; omega⟩
        case measure => simp [intOf]; omega
      · have h6b : (i.kind == 6) = false := by rw [beq_eq_false_iff_ne]; exact h6
        have HK6 := Lib.hid h6
        have HQ := Lib.hid (give_twin HR9.out.x.good HOK.out.id HTW.out h6)
        obtain ⟨lg, hlq⟩ : ∃ lg, giveA x.s i = lg := ⟨_, rfl⟩
        obtain ⟨nl, hnl⟩ : ∃ nl, lg.length = nl := ⟨_, rfl⟩
        have HLQ := Lib.hid hlq
        have HNL := Lib.hid hnl
        rw [hlq] at HQ
        have HNX : Hid (x.n + 202 < maxLen) := Lib.hid (by have := HXN.out; have := HJL.out; unfold maxLen; omega)
        clear h6 hlq hnl
        go_upto_region 11 with fail
        clear ci
        go_upto_region 12 with (first
        | (guard_target = wpList _ _ _ (Oper.mk _ (.load 67 _) _ _ _ _ :: _) _ _; refine wpList_load_inn (by rfl) _ rfl ⟨wr.heap.size, 0, none⟩ i rfl (load_inn HS9.out HOK.out) ?_)
        | (go_at_call 34; refine (HR9.out.give HNX.out i HOK.out HK6.out).mono ?_; rintro e Wg ⟨vg, x1, rfl, hog, hrg, hxs, hxn1⟩; rw [HLQ.out] at hog; have hnb : nl ≤ 1000000 := HNL.out ▸ hog.2.1; obtain ⟨Aq, cq, rfl⟩ := hog.sliceR HNL.out))
        obtain ⟨bq, hob, hbq⟩ : ∃ bq, OwnA bq Wg (.slice Aq nl cq) lg ∧ (∀ g, y.has g → g < bq) := ⟨_, hog, fun g hg => (HR9.out.hall.at_ 1 y rfl).lt hg⟩
        have HOB := Lib.hid hob
        have HBQ := Lib.hid hbq
        have HRG := Lib.hid hrg
        have HNB := Lib.hid hnb
        obtain ⟨wp, hwp⟩ : ∃ z, z = wr := ⟨_, rfl⟩
        subst hwp
        clear hob hbq hog hrg
        go_loopw [84] (fun s84 wr => ∃ (k : Nat) (y1 : RB), k ≤ nl ∧ s84 = .int .i64 (k : Int) ∧ RcI w B B2 x1 y1 wr ∧ y1.s = (lg.take k).foldl recS y.s ∧ y1.n = y.n + k ∧ (∀ g, y1.has g → g < bq) ∧ OwnA bq wr (.slice Aq nl cq) lg) (fun s84 _ => nl - (intOf s84).toNat)
        case atStart => exact ⟨0, y, Nat.zero_le _, rfl, HRG.out, rfl, rfl, HBQ.out, HOB.out⟩
        case round =>
          obtain ⟨k, y1, hkn, rfl, hrk, hy1, hyk, hyb, hO⟩ := hrel
          by_cases hkl : k < nl
          · have hki : (k : Int) < (nl : Int) := by omega
            have hk0 : (0 : Int) ≤ (k : Int) := by omega
            obtain ⟨xa, hxk⟩ : ∃ xa, lg[k]? = some xa := ⟨_, List.getElem?_eq_getElem (by rw [HNL.out]; exact hkl)⟩
            obtain ⟨adx, cx, hex, hxo, _, hla⟩ := hO.rd.here hxk
            rw [HNL.out] at hex
            obtain ⟨rfl, -, rfl⟩ := Value.slice.inj hex
            have HLA := Lib.hid hla
            have HXO := Lib.hid hxo
            have HXK := Lib.hid hxk
            have HY1 := Lib.hid hy1
            have HYB := Lib.hid hyb
            have HYK : Hid (y1.n ≤ y.n + 1000000) := Lib.hid (by have := HNB.out; omega)
            have HYE := Lib.hid hyk
            have HNY : Hid (y.n + 1000000 < maxLen) := Lib.hid (by have := HYN.out; have := HJL.out; unfold maxLen; omega)
            clear hxk hex hxo hla hy1 hyb hyk
            go_upto_region 14 with (first
        | (guard_target = wpList _ _ _ (Oper.mk _ (.load 71 _) _ _ _ _ :: _) _ _; refine wpList_load_runS (by rfl) 71 _ rfl _ _ rfl (HLA.out _ (Below.refl _ _)) ?_)
        | (guard_target = wpList _ _ _ (Oper.mk _ (.store 71 _ _) _ _ _ _ :: _) _ _; refine wpList_store_actL rfl _ _ rfl wr.heap.size xa rfl rfl HXO.out 71 _ (Blk.newAt _ _ rfl rfl) rfl ?_; intro W8 hS8 hz8 hb8 hk8; have hbn := (((Below.refl _ wr).alloc (Nat.le_refl _) _).trans hb8); replace hrk := hrk.below hbn; replace hO := hO.below hbn; clear hz8 hb8 hk8 hbn))
            go_wp2_with (first
        | (guard_target = wpList _ _ _ (Oper.mk _ (.load 71 _) _ _ _ _ :: _) _ _; refine wpList_load_runS (by rfl) 71 _ rfl _ _ rfl (load_act hS8 HXO.out) ?_)
        | (go_at_call 46; refine (hrk.recall (by have := HNY.out; have := HYK.out; omega) xa HXO.out).mono ?_; rintro e Wu ⟨vu, y2, rfl, hru, hys, hyn2, hsub, hown⟩))
            go_roundw
            case rel => exact ⟨k + 1, y2, hkl, by go_num, hru, by rw [hys, HY1.out, take_fold recS HXK.out], by have := HYE.out; omega, fun g hg => HYB.out g (hsub g hg), hown _ _ _ hO HYB.out⟩
            case measure => simp [intOf]; omega
          · obtain rfl : k = nl := by omega
            have hki : ¬ (k : Int) < (k : Int) := by omega
            have hfull : lg.take k = lg := List.take_of_length_le (by rw [HNL.out]; exact Nat.le_refl _)
            rw [hfull] at hy1
            have HY1 := Lib.hid hy1
            have HYE := Lib.hid hyk
            have HRK := Lib.hid hrk
            clear hfull hy1 hyk hrk hO hyb
            go_wp2_with fail
            go_roundw
            case rel => exact ⟨j + 1, x1, y1, hlt, by go_num, HRK.out, by rw [hxs, HY1.out]; exact HQ.out, by have := HXN.out; omega, by have := HYN.out; have := HYE.out; have := HNB.out; omega⟩
            case measure => simp [intOf]; omega
    · obtain rfl : j = mm := by omega
      have hji : ¬ (j : Int) < (j : Int) := by omega
      clear hlt
      have HLO := Lib.hid HRJ.out.x.ok.lock
      have HRX := HRJ
      go_upto_region 18 with (first
        | (go_at_call 47; refine (lock_any HRX.out.x).mono ?_; rintro e Wl ⟨rfl, hbl⟩; have HRY := Lib.hid (HRX.out.below hbl); clear hbl)
        | (guard_target = wpList _ _ _ (Oper.mk _ (.store 24 _ _) _ _ _ _ :: _) _ _; refine wpList_store_idv rfl _ _ rfl Wl.heap.size x.s.lock rfl rfl HLO.out 24 _ (Blk.newAt _ _ rfl rfl) rfl ?_; intro Wk hWk hzWk hbWk hkWk; have HBk := Lib.hid (((Below.refl _ Wl).alloc (Nat.le_refl _) _).trans hbWk); clear hzWk hbWk hkWk))
      have HRZ := Lib.hid (HRY.out.below HBk.out)
      have hWk' := hWk
      clear hWk
      go_upto_region 19 with (first
        | (go_at_call 47; refine (HRZ.out.lock2 HTW.out).mono ?_; rintro e Wm ⟨rfl, hbm⟩; have HBm := Lib.hid hbm; clear hbm)
        | (guard_target = wpList _ _ _ (Oper.mk _ (.store 24 _ _) _ _ _ _ :: _) _ _; refine wpList_store_idv rfl _ _ rfl Wm.heap.size x.s.lock rfl rfl HLO.out 24 _ (Blk.newAt _ _ rfl rfl) rfl ?_; intro Wn hWn hzWn hbWn hkWn; have HBn := Lib.hid (((Below.refl _ Wm).alloc (Nat.le_refl _) _).trans hbWn); clear hzWn hbWn hkWn))
      have HRX := Lib.hid ((HRZ.out.below HBm.out).below HBn.out)
      have hWk := (hWk'.below HBm.out hWk'.lt).below HBn.out (hWk'.below HBm.out hWk'.lt).lt
      have heq := fun W => neq_idv HLO.out HLO.out W
      have hgu := fun W a b => guardn_idv a b x.s.lock x.s.lock W
      have hlr : (x.s.lockR != x.s.lockR) = false := by simp
      go_upto_region 21 with (first
        | (guard_target = wpList _ _ _ (Oper.mk _ (.load 24 (.tmp 16)) _ _ _ _ :: _) _ _; refine wpList_load_runS (by rfl) 24 _ rfl _ _ rfl (run_loadVar_idv HLO.out hWk) ?_)
        | (guard_target = wpList _ _ _ (Oper.mk _ (.load 24 (.tmp 18)) _ _ _ _ :: _) _ _; refine wpList_load_runS (by rfl) 24 _ rfl _ _ rfl (run_loadVar_idv HLO.out hWn) ?_))
      clear heq hgu hlr hWk' hWk hWn
      go_upto_region 22 with fail
      go_loopw [19] (fun s19 wr => ∃ k : Nat, k ≤ 12 ∧ s19 = .int .i64 (k : Int) ∧ RcI w B B2 x y wr) (fun s19 _ => 12 - (intOf s19).toNat)
      case atStart => exact ⟨0, by omega, rfl, HRX.out⟩
      case round =>
        obtain ⟨k, hk, rfl, hrk⟩ := hrel
        clear HRX HRY HRZ
        have HR3 := Lib.hid hrk
        clear hrk
        by_cases hk12 : k < 12
        · have hki : (k : Int) < 12 := by omega
          have hk0 : (0 : Int) ≤ (k : Int) := by omega
          have HWK : Hid (wfi (k : Int)) := Lib.hid (wfi_small (by omega) (by omega))
          have heq := fun W => two_neq (HR3.out.x.cnt.idOk (k : Int) 0 x.s.me) (HR3.out.x.cnt.idOk (k : Int) 1 x.s.me) W
          have hgu := fun W a b => two_guard a b (twoL ((x.s.votes (k : Int) 0 x.s.me).getD zeroId) ((x.s.votes (k : Int) 1 x.s.me).getD zeroId)) (twoL ((x.s.votes (k : Int) 0 x.s.me).getD zeroId) ((x.s.votes (k : Int) 1 x.s.me).getD zeroId)) W
          go_wp2_with (first
        | (go_at_call 48; refine (own_any HR3.out.x (k : Int) HWK.out).mono ?_; rintro e Wa ⟨rfl, hba⟩; have HR3a := Lib.hid (HR3.out.below hba); clear HR3 hba)
        | (go_at_call 48; refine (HR3a.out.own2 HTW.out (k : Int) HWK.out).mono ?_; rintro e Wb ⟨rfl, hbb⟩; have HR3b := Lib.hid (HR3a.out.below hbb); clear hbb))
          go_roundw
          case rel => exact ⟨k + 1, by omega, by go_num, HR3b.out⟩
          case measure => simp [intOf]; omega
        · obtain rfl : k = 12 := by omega
          have hki : ¬ ((12 : Nat) : Int) < 12 := by omega
          clear hk12
          go_upto_region 27 with fail
          go_loopw [124] (fun s124 wr => ∃ (j : Nat) (y : RB), j ≤ m2 ∧ s124 = .int .i64 (j : Int) ∧ RcI w B B2 x y wr ∧ KeptV (fun r k => x.s.votes r k x.s.me) x.s.me y.s ∧ y.n ≤ 60000000 + 202 * j) (fun s124 _ => m2 - (intOf s124).toNat)
          case atStart => exact ⟨0, y, Nat.zero_le _, rfl, HR3.out, twin_kept HTW.out, by have := HYN.out; have := HM.out; omega⟩
          case round =>
            clear HR3 HRX HRJ HTW HYN
            obtain ⟨y0, hy0⟩ : ∃ z, z = y := ⟨_, rfl⟩
            subst hy0
            obtain ⟨j', hj'⟩ : ∃ z, z = j := ⟨_, rfl⟩
            obtain ⟨j, y, hj, rfl, hrj, hkv, hyn⟩ := hrel
            have HRJ := Lib.hid hrj
            have HKV := Lib.hid hkv
            have HYN := Lib.hid hyn
            clear hrj hkv hyn
            by_cases hlt : j < m2
            · skip
              have hji : (j : Int) < (m2 : Int) := by omega
              have hj0 : (0 : Int) ≤ (j : Int) := by omega
              have HJL : Hid (j < 60) := Lib.hid (by have := HM2.out; omega)
              obtain ⟨i, hi⟩ : ∃ i, L2[j]? = some i := ⟨_, List.getElem?_eq_getElem (by rw [HL2.out]; exact hlt)⟩
              obtain ⟨ad, c', he, hok, _, hld⟩ := HRW2.out.here hi
              rw [HL2.out] at he
              obtain ⟨rfl, -, rfl⟩ := Value.slice.inj he
              have HOK := Lib.hid hok
              have HLD := Lib.hid hld
              have HBW := Lib.hid HRJ.out.base
              clear hi he hok hld
              go_upto_region 29 with (first
                | (guard_target = wpList _ _ _ (Oper.mk _ (.load 67 _) _ _ _ _ :: _) _ _; refine wpList_load_inn (by rfl) _ rfl (ad.add (j * 37)) i rfl (HLD.out _ HBW.out) ?_)
                | (guard_target = wpList _ _ _ (Oper.mk _ (.store 67 _ _) _ _ _ _ :: _) _ _; refine wpList_store_inn rfl _ _ rfl wr.heap.size i rfl rfl HOK.out 67 _ (Blk.newAt _ _ rfl rfl) rfl ?_; intro W9 hS9 hz9 hb9 hk9; have HS9 := Lib.hid hS9; have HB9 := Lib.hid (((Below.refl _ wr).alloc (Nat.le_refl _) _).trans hb9); clear hS9 hz9 hb9 hk9))
              have HR9 := Lib.hid (HRJ.out.below HB9.out)
              have ci : W9.cell? ⟨wr.heap.size, 0, none⟩ = some (.int .i64 i.kind) := by rw [HS9.out.cell]; rfl
              by_cases h6 : i.kind = 6
              · rw [h6] at ci
                clear h6
                go_wp2_with fail
                go_roundw
                case rel => exact ⟨j + 1, y, hlt, by go_num, HR9.out, HKV.out, by have := HYN.out; omega⟩
                case measure => simp [intOf]; omega
              · have h6b : (i.kind == 6) = false := by rw [beq_eq_false_iff_ne]; exact h6
                have HK6 := Lib.hid h6
                have HQ := Lib.hid (give_kept HR9.out.y.good HOK.out.id HKV.out h6)
                obtain ⟨lg, hlq⟩ : ∃ lg, giveA y.s i = lg := ⟨_, rfl⟩
                obtain ⟨nl, hnl⟩ : ∃ nl, lg.length = nl := ⟨_, rfl⟩
                have HLQ := Lib.hid hlq
                have HNL := Lib.hid hnl
                rw [hlq] at HQ
                have HNX : Hid (y.n + 202 < maxLen) := Lib.hid (by have := HYN.out; have := HJL.out; unfold maxLen; omega)
                clear h6 hlq hnl
                go_upto_region 30 with fail
                clear ci
                go_upto_region 31 with (first
                | (guard_target = wpList _ _ _ (Oper.mk _ (.load 67 _) _ _ _ _ :: _) _ _; refine wpList_load_inn (by rfl) _ rfl ⟨wr.heap.size, 0, none⟩ i rfl (load_inn HS9.out HOK.out) ?_)
                | (go_at_call 34; refine (HR9.out.give2 HNX.out i HOK.out HK6.out).mono ?_; rintro e Wg ⟨vg, y1, rfl, hog, hrg, hxs, hxn1⟩; rw [HLQ.out] at hog; have hnb : nl ≤ 1000000 := HNL.out ▸ hog.2.1; obtain ⟨Aq, cq, rfl⟩ := hog.sliceR HNL.out))
                have HOB := Lib.hid hog
                have HRG := Lib.hid hrg
                obtain ⟨wp, hwp⟩ : ∃ z, z = wr := ⟨_, rfl⟩
                subst hwp
                obtain ⟨bq, hbq⟩ : ∃ z, z = W9.heap.size := ⟨_, rfl⟩
                rw [← hbq] at HOB
                clear hog hrg
                go_loopw [135] (fun s135 wr => ∃ k : Nat, k ≤ nl ∧ s135 = .int .i64 (k : Int) ∧ RcI w B B2 x y1 wr ∧ OwnA bq wr (.slice Aq nl cq) lg) (fun s135 _ => nl - (intOf s135).toNat)
                case atStart => exact ⟨0, Nat.zero_le _, rfl, HRG.out, HOB.out⟩
                case round =>
                  obtain ⟨k, hkn, rfl, hrk, hO⟩ := hrel
                  by_cases hkl : k < nl
                  · have hki : (k : Int) < (nl : Int) := by omega
                    have hk0 : (0 : Int) ≤ (k : Int) := by omega
                    obtain ⟨xa, hxk⟩ : ∃ xa, lg[k]? = some xa := ⟨_, List.getElem?_eq_getElem (by rw [HNL.out]; exact hkl)⟩
                    obtain ⟨adx, cx, hex, hxo, _, hla⟩ := hO.rd.here hxk
                    rw [HNL.out] at hex
                    obtain ⟨rfl, -, rfl⟩ := Value.slice.inj hex
                    have HLA := Lib.hid hla
                    have HXO := Lib.hid hxo
                    have HXK := Lib.hid hxk
                    have HKX := Lib.hid (HQ.out.1 xa (List.mem_of_getElem? hxk))
                    clear hxk hex hxo hla
                    go_upto_region 33 with (first
                | (guard_target = wpList _ _ _ (Oper.mk _ (.load 71 _) _ _ _ _ :: _) _ _; refine wpList_load_runS (by rfl) 71 _ rfl _ _ rfl (HLA.out _ (Below.refl _ _)) ?_)
                | (guard_target = wpList _ _ _ (Oper.mk _ (.store 71 _ _) _ _ _ _ :: _) _ _; refine wpList_store_actL rfl _ _ rfl wr.heap.size xa rfl rfl HXO.out 71 _ (Blk.newAt _ _ rfl rfl) rfl ?_; intro W8 hS8 hz8 hb8 hk8; have hbn := (((Below.refl _ wr).alloc (Nat.le_refl _) _).trans hb8); replace hrk := hrk.below hbn; replace hO := hO.below hbn; clear hz8 hb8 hk8 hbn))
                    have cr : W8.cell? ⟨wr.heap.size, 1, none⟩ = some (.int .i64 xa.round) := act_roundR hS8
                    have HR4 := Lib.hid hrk
                    obtain ⟨ia, hia⟩ : ∃ ia, (x.s.votes xa.round 0 x.s.me).getD zeroId = ia := ⟨_, rfl⟩
                    obtain ⟨ib, hib⟩ : ∃ ib, (x.s.votes xa.round 1 x.s.me).getD zeroId = ib := ⟨_, rfl⟩
                    have HIO : Hid (IdOk ia ∧ IdOk ib) := Lib.hid ⟨hia ▸ hrk.x.cnt.idOk xa.round 0 x.s.me, hib ▸ hrk.x.cnt.idOk xa.round 1 x.s.me⟩
                    have HIA := Lib.hid hia
                    have HIB := Lib.hid hib
                    clear hia hib hrk
                    go_upto_region 34 with (first
                | (go_at_call 48; refine (own_any HR4.out.x xa.round HXO.out.round).mono ?_; rintro e Wa ⟨rfl, hba⟩; have HBa := Lib.hid hba; clear hba; rw [HIA.out, HIB.out])
                | (guard_target = wpList _ _ _ (Oper.mk _ (.store 100 _ _) _ _ _ _ :: _) _ _; refine wpList_store_two rfl _ _ rfl Wa.heap.size ia ib rfl rfl HIO.out.1 HIO.out.2 100 _ (Blk.newAt _ _ rfl rfl) rfl ?_; intro W7 hS7 hz7 hb7 hk7; have HB7 := Lib.hid (((Below.refl _ Wa).alloc (Nat.le_refl _) _).trans hb7); clear hz7 hb7 hk7))
                    have hS8' := (hS8.below HBa.out hS8.lt).below HB7.out (hS8.below HBa.out hS8.lt).lt
                    clear hS8 cr
                    have hS8 := hS8'
                    clear hS8'
                    have ck : W7.cell? ⟨wr.heap.size, 0, none⟩ = some (.int .i64 xa.kind) := by rw [hS8.cell]; rfl
                    by_cases h2 : xa.kind = 2
                    · have hkx := HKX.out h2
                      clear HKX
                      have HKX := Lib.hid hkx
                      clear hkx
                      rw [h2] at ck
                      clear h2
                      have heq := fun W => neq_idv zeroId_ok zeroId_ok W
                      have hgu := fun W a b => guardn_idv a b zeroId zeroId W
                      rcases HKX.out.1 with hn0 | hn1
                      · have cn : W7.cell? ⟨wr.heap.size, 2, none⟩ = some (.int .i64 0) := by rw [← hn0]; exact act_numR hS8
                        have hz : ia = zeroId := by
                          have := HKX.out.2
                          rw [hn0] at this
                          have h2 : x.s.votes xa.round 0 x.s.me = none := this
                          rw [← HIA.out, h2]
                          rfl
                        subst hz
                        clear hn0
                        go_wp2_with (first
                        | (guard_target = wpList _ _ _ (Oper.mk _ (.load 24 _) _ _ _ _ :: _) _ _; refine wpList_load_runS (by rfl) 24 _ rfl _ _ rfl (load_two0 hS7 HIO.out.1 HIO.out.2) ?_)
                        | (guard_target = wpList _ _ _ (Oper.mk _ (.build 24 _) _ _ _ _ :: _) _ _; refine wpList_yields (S := fun _ => True) trivial (v := idv zeroId) (yields_build (by rfl) 24 _ rfl [] rfl _ zero_built') (by rfl) ?_))
                        go_roundw
                        case rel => exact ⟨k + 1, hkl, by go_num, HR4.out.below (HBa.out.trans (HB7.out.mono HBa.out.size)), hO.below (HBa.out.trans (HB7.out.mono HBa.out.size))⟩
                        case measure => simp [intOf]; omega
                      · have cn : W7.cell? ⟨wr.heap.size, 2, none⟩ = some (.int .i64 1) := by rw [← hn1]; exact act_numR hS8
                        have hz : ib = zeroId := by
                          have := HKX.out.2
                          rw [hn1] at this
                          have h2 : x.s.votes xa.round 1 x.s.me = none := this
                          rw [← HIB.out, h2]
                          rfl
                        subst hz
                        clear hn1
                        go_wp2_with (first
                        | (guard_target = wpList _ _ _ (Oper.mk _ (.load 24 _) _ _ _ _ :: _) _ _; refine wpList_load_runS (by rfl) 24 _ rfl _ _ rfl (load_two1 hS7 HIO.out.1 HIO.out.2) ?_)
                        | (guard_target = wpList _ _ _ (Oper.mk _ (.build 24 _) _ _ _ _ :: _) _ _; refine wpList_yields (S := fun _ => True) trivial (v := idv zeroId) (yields_build (by rfl) 24 _ rfl [] rfl _ zero_built') (by rfl) ?_))
                        go_roundw
                        case rel => exact ⟨k + 1, hkl, by go_num, HR4.out.below (HBa.out.trans (HB7.out.mono HBa.out.size)), hO.below (HBa.out.trans (HB7.out.mono HBa.out.size))⟩
                        case measure => simp [intOf]; omega
                    · have h2b : (xa.kind == 2) = false := by rw [beq_eq_false_iff_ne]; exact h2
                      clear h2
                      go_wp2_with fail
                      go_roundw
                      case rel => exact ⟨k + 1, hkl, by go_num, HR4.out.below (HBa.out.trans (HB7.out.mono HBa.out.size)), hO.below (HBa.out.trans (HB7.out.mono HBa.out.size))⟩
                      case measure => simp [intOf]; omega
                  · obtain rfl : k = nl := by omega
                    have hki : ¬ (k : Int) < (k : Int) := by omega
                    have HRK := Lib.hid hrk
                    clear hrk hO
                    go_wp2_with fail
                    go_roundw
                    case rel => exact ⟨j + 1, y1, hlt, by go_num, HRK.out, by rw [hxs]; exact HQ.out.2, by have := HYN.out; omega⟩
                    case measure => simp [intOf]; omega
            · obtain rfl : j = m2 := by omega
              have hji : ¬ (j : Int) < (j : Int) := by omega
              go_wp2_with fail
              go_ret
              exact ⟨rfl, HRJ.out.base⟩
theorem roundrecalls_law (a b c : Int) (v : Value) (L : List InS) (v2 : Value) (L2 : List InS) (w : World) (ha : wfi a ∧ wfi b ∧ wfi c) (hr : RdG w w.heap.size v L) (hr2 : RdG w w.heap.size v2 L2) : Calls Try.prog 12 #[(.agg #[.int .i64 a, .int .i64 b, .int .i64 c]), v, v2] w fun e w' => e = .returned (.bool true) ∧ Below w.heap.size w w' := by
  obtain ⟨_, Aq, cq, rfl, _⟩ := id hr
  obtain ⟨_, Dq, dq, rfl, _⟩ := id hr2
  by_cases hc : CanR a b c
  · by_cases hm : L.length ≤ 60
    · by_cases hm2 : L2.length ≤ 60
      · exact recalls_loop a b c ha.2.2 _ _ _ L _ _ _ L2 w hr rfl hr2 rfl hc hm hm2
      · exact recalls_long2 a b c ha.2.2 _ _ _ L _ _ _ L2 w hr rfl hr2 rfl hc hm (by omega)
    · exact recalls_long1 a b c ha.2.2 _ _ _ L _ _ _ L2 w hr rfl hr2 rfl hc (by omega)
  · exact recalls_bad a b c ha.2.2 _ _ _ L _ _ _ L2 w hr rfl hr2 rfl hc
end Go.Proofs.Ytclhfokflagopaa
