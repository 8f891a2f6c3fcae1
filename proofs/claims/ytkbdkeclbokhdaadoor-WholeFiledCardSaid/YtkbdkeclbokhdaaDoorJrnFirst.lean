/-
  Layer 10: the first record in bytes. In whatever memory in which the tables read as they are laid. No condition.
-/
import Derived.Test.YtkbdkeclbokhdaaDoorJrnSum
import Derived.Deep.QuietTactic
import Derived.Deep.RegionHeld3
import Derived.BigQuiet
import Derived.Outline
import Derived.Laws.Tables
namespace Go.Proofs.YtkbdkeclbokhdaaDoor
open Go Go.RowKit Go.Shelf

set_option maxRecDepth 100000 in
set_option maxHeartbeats 2000000 in
theorem bytesEq_any (A B : Option Addr) (n m c d : Nat) (L M : List UInt8) (w : World) (hL : RdB w (fun b => b < w.heap.size) (.slice A n c) L) (hM : RdB w (fun b => b < w.heap.size) (.slice B m d) M) :
    Calls Tryd.prog 54 #[.slice A n c, .slice B m d] w fun e w' => e = .returned (.bool (L == M)) ∧ w' = w := by
  have h1 := str_rd hL
  have h2 := str_rd hM
  have h3 : ((⟨L.toArray⟩ : ByteArray).toList == (⟨M.toArray⟩ : ByteArray).toList) = (L == M) := by simp [ByteArray.toList_eq]
  generalize (L == M) = β at h3 ⊢
  obtain ⟨s1, hs1⟩ : ∃ s, (⟨L.toArray⟩ : ByteArray) = s := ⟨_, rfl⟩
  obtain ⟨s2, hs2⟩ : ∃ s, (⟨M.toArray⟩ : ByteArray) = s := ⟨_, rfl⟩
  rw [hs1] at h1 h3
  rw [hs2] at h2 h3
  have HB := Lib.hid h3
  clear hL hM hs1 hs2 h3
  go_enter Tryd.func54, Tryd.ntmps54
  go_wp2
  go_ret
  refine ⟨?_, rfl⟩
  rw [← HB.out]
  rfl
theorem RdB.getc {W : World} {ok : Nat → Prop} {A : Option Addr} {n c : Nat} {bs : List UInt8} (h : RdB W ok (.slice A n c) bs) {j : Nat} (hj : j < bs.length) : ∃ ad : Addr, A = some ad ∧ W.cell? (ad.add j) = some (bv (bs.getD j 0)) := by
  obtain ⟨A', c', hv, h1, h2, h3⟩ := h
  injection hv with e1 e2 e3
  subst e1
  obtain ⟨ad, rfl, _, hc⟩ := h3 (by omega)
  exact ⟨ad, rfl, hc j hj⟩
theorem i64_or_nat (a b : Nat) (ha : a < 9223372036854775808) (hb : b < 9223372036854775808) : bits .or .i64 (a : Int) (b : Int) = ((a ||| b : Nat) : Int) := by
  have hx : a ||| b < 2 ^ 63 := Nat.or_lt_two_pow (by omega) (by omega)
  show IntKind.i64.wrap ((BitVec.ofInt 64 (a : Int) ||| BitVec.ofInt 64 (b : Int)).toNat : Int) = _
  rw [BitVec.toNat_or, ofInt_u64 a (by omega), ofInt_u64 b (by omega), IntKind.wrap_i64]
  omega
theorem or_join (i x y : Nat) (hx : x % 2 ^ i = 0) (hy : y < 2 ^ i) (hxl : x < 9223372036854775808) (hyl : y < 9223372036854775808) : bits .or .i64 (x : Int) (y : Int) = ((x + y : Nat) : Int) := by
  rw [i64_or_nat x y hxl hyl, nat_join i x y hx hy]
theorem addr1 (ad : Addr) : ad.add 1 = { block := ad.block, off := ad.off + 1 } := by simp [Addr.add]
theorem addr2 (ad : Addr) : ad.add 2 = { block := ad.block, off := ad.off + 2 } := by simp [Addr.add]
theorem yieldsIf_load_blk {P : Program} {ops : Array Oper} {S : World → Prop} {op : Oper} {a : Act} (hw : Region.wanted op (yielded ops a.tmps) = true) (ty : TypeId) (x : Operand) (ho : op.op = .load ty x)
    (g : Nat) (hx : a.eval x = .pointer (some ⟨g, 0, none⟩)) (t : TypeId) (cs : Array Value) (d : TypeDesc) (hS : ∀ w, S w → Blk w g t cs)
    (hu : P.underlying ty = some d) (hd : d.isRow = true) (hi : (P.info? ty).map (·.size) = some cs.size) : YieldsIf P ops S op (.agg cs) a := by
  have := yieldsIf_load_mid (S := S) hw ty x ho g 0 hx cs.toList d (fun w h => by
    refine fun j v hv => ?_
    rw [Array.getElem?_toList] at hv
    rw [Nat.zero_add, (hS w h).cell]
    exact hv) hu hd (by simpa using hi)
  rw [Array.toArray_toList] at this
  exact this

theorem run_slice_rangeB {P : Program} (t e : TypeId) (ht : P.underlying t = some (.slice e)) (hs : (P.info? e).map (·.size) = some 1) (A : Option Addr) (len cap l h : Nat) (hl : l ≤ h) (hh : h ≤ cap) (w : World) :
    (Instr.sliceAt t (.slice A len cap) (some (.int .i64 (l : Int))) (some (.int .i64 (h : Int))) none).run P w = .ok (.slice (cutA A cap l) (h - l) (cap - l)) w := by
  have h1 : (l : Int) ≤ h := by omega
  have h2 : (h : Int) ≤ cap := by omega
  simp [Instr.sliceAt, Instr.slice, run_underlying ht, Instr.sliceBounds, Instr.sliceBound, asIntOf, Sem.run_bind, size_one hs, cutA]
  rw [if_pos hl]
  simp
  intro hx
  omega
theorem results_tct {P : Program} {fn : Func} {p q r : Tmp} {ty : TypeId} (h : fn.results = #[.tmp r, .cell p ty, .tmp q]) (tmps : Array Value) (w : World) (g : Nat) (t : TypeId) (cs : Array Value) (d : TypeDesc)
    (hp : tmps.getD p undef = .pointer (some ⟨g, 0, none⟩)) (hg : Blk w g t cs)
    (hu : P.underlying ty = some d) (hd : (match d with | .struct _ | .array _ _ => true | _ => false) = true) (hi : (P.info? ty).map (·.size) = some cs.size) :
    (results fn tmps).run P w = .ok (.tuple #[tmps.getD r undef, .agg cs, tmps.getD q undef]) w := by
  have hp' : tmps[p]?.getD undef = .pointer (some ⟨g, 0, none⟩) := by simpa using hp
  simp [results, h, hp', asAddr, run_loadVar_row w g t ty cs (0, 0) d hg hu hd hi]
theorem built_zeroJ : (Tryd.prog.built 37 []).getD #[] = arr 32 fun _ => bv 0 := by
  have e : (Tryd.prog.built 37 []).getD #[] = (arr 32 fun _ => bv 0) := by kernel_rfl
  exact e
def sizeJ (b : List UInt8) : Nat := (b.getD 0 0).toNat * 65536 + (b.getD 1 0).toNat * 256 + (b.getD 2 0).toNat
def dataJ (b : List UInt8) : List UInt8 := (b.drop 35).take (sizeJ b)
/-- What the first record in bytes is said to be. -/
def codeJ (a : Nat → UInt8) (b : List UInt8) : Nat :=
  if b.length < 35 then 20 else if (b.take 19 == frontB a (sizeJ b)) = false then 100 else if b.length - 35 < sizeJ b then 20 else if ((b.take 35).drop 19 == (id32 (withD a (dataJ b))).take 16) = false then 100 else 0
theorem sizeJ_lt (b : List UInt8) : sizeJ b < 16777216 := by
  unfold sizeJ
  have h0 := (b.getD 0 0).toNat_lt
  have h1 := (b.getD 1 0).toNat_lt
  have h2 := (b.getD 2 0).toNat_lt
  omega
/-- What is handed back. -/
def FirstO (W : World) (ok : Nat → Prop) (a : Nat → UInt8) (b : List UInt8) (v : Value) (f : Nat → UInt8) : Prop :=
  codeJ a b = 0 → (∃ A c, v = .slice A (sizeJ b) c) ∧ RdB W ok v (dataJ b) ∧ f = withD a (dataJ b)
set_option maxRecDepth 100000 in
set_option maxHeartbeats 4000000 in
theorem first_any (a : Nat → UInt8) (A : Option Addr) (n c : Nat) (b : List UInt8) (w : World) (hT : Tables w) (hr : RdB w (fun i => i < w.heap.size) (.slice A n c) b) :
    Calls Tryd.prog 32 #[.slice A n c, .agg (arr 32 fun i => bv (a i))] w fun e w' => ∃ v f, e = .returned (.tuple #[v, .agg (arr 32 fun i => bv (f i)), .int .i64 (codeJ a b : Int)]) ∧ FirstO w' (fun i => i < w.heap.size) a b v f ∧ Below w.heap.size w w' := by
  have hz := built_zeroJ
  have hln : b.length = n ∧ n ≤ 140737488351232 ∧ n ≤ c := by
    obtain ⟨A', c', hv, h1, h2, h3⟩ := hr
    injection hv with e1 e2 e3
    omega
  obtain ⟨hln, hnm, hnc⟩ := hln
  have hZ32 : Hid (Array.replicate 32 (bv 0) = arr 32 fun _ => bv 0) := Lib.hid (by rw [← upto_none 32 (fun _ => bv 0) (bv 0)]; exact arr_congr fun i _ => by simp)
  have HT := Lib.hid hT
  have HR := Lib.hid hr
  have HLN := Lib.hid hln
  clear hT hln
  obtain ⟨al, hal⟩ : ∃ al, (arr 32 fun i => bv (a i)) = al := ⟨_, rfl⟩
  rw [hal]
  have HAL := Lib.hid hal
  clear hal
  go_enter Tryd.func32, Tryd.ntmps32
  go_upto_region 1 with fail
  generalize hW : (World.alloc (World.alloc w _) _) = W
  have c0 : Blk W w.heap.size 37 al := by rw [← hW]; exact (Blk.newAt _ _ rfl rfl).alloc _
  have r0 : Blk W (w.heap.size + 1) 37 (arr 32 fun _ => bv 0) := by rw [← hW]; exact Blk.newAt _ _ (by simp) hZ32.out
  have b0 : Below w.heap.size w W := by rw [← hW]; exact ((Below.refl _ _).alloc (Nat.le_refl _) _).alloc (by simp) _
  have HC0 := Lib.hid c0
  have HR0 := Lib.hid r0
  have HB0 := Lib.hid b0
  clear hW c0 r0 b0
  by_cases h35 : n < 35
  · have hli : decide ((n : Int) < 35) = true := decide_eq_true (by omega)
    have HC : Hid (codeJ a b = 20) := Lib.hid (by unfold codeJ; rw [if_pos (by rw [HLN.out]; exact h35)])
    clear hr
    go_wp2_with (first
      | (refine wpList_build rfl 37 #[] rfl (by kernel_rfl) ?_; simp only [List.map_toArray, List.map_nil]; rw [hz])
      | (refine wpList_store_arrW rfl 37 _ _ rfl (w.heap.size + 1) (arr 32 fun _ => bv 0) rfl rfl 37 _ HR0.out (by rw [arr_size]; kernel_rfl) (by rw [arr_size]) (arr_all_bv _ _) ?_; intro W2 hS2 hz2 hb2 ho2))
    refine bodyPost_ret (results_tct (p := 5) (q := 6) (r := 4) rfl _ _ (w.heap.size + 1) 37 _ _ rfl hS2 Tryd.underlying37 rfl (by rw [arr_size]; kernel_rfl)) rfl ?_
    exact ⟨_, fun _ => 0, by rw [HC.out]; rfl, fun h => absurd h (by rw [HC.out]; decide), HB0.out.trans (hb2.mono (Nat.le_succ _))⟩
  · have hli : decide ((n : Int) < 35) = false := decide_eq_false (by omega)
    have hSZ : Hid (sizeJ b < 16777216) := Lib.hid (sizeJ_lt b)
    have hrW := hr.kept fun i x hi h => (HB0.out.cell (p := i) hi).trans h
    obtain ⟨N, hN⟩ : ∃ N, sizeJ b = N := ⟨_, rfl⟩
    have HSN := Lib.hid hN
    obtain ⟨ad, hA, c0⟩ := hrW.getc (j := 0) (by rw [HLN.out]; omega)
    obtain ⟨_, e1, c1⟩ := hrW.getc (j := 1) (by rw [HLN.out]; omega)
    rw [hA] at e1
    injection e1 with e1
    subst e1
    obtain ⟨_, e1, c2⟩ := hrW.getc (j := 2) (by rw [HLN.out]; omega)
    rw [hA] at e1
    injection e1 with e1
    subst e1
    subst hA
    have h0 := (b.getD 0 0).toNat_lt
    have h1 := (b.getD 1 0).toNat_lt
    have h2 := (b.getD 2 0).toNat_lt
    unfold sizeJ at hN
    generalize b.getD 0 0 = x0 at *
    generalize b.getD 1 0 = x1 at *
    generalize b.getD 2 0 = x2 at *
    have hm1 : 0 < n := by omega
    have hm2 : 1 < n := by omega
    have hm3 : 2 < n := by omega
    have hn1 : (0 : Int) < (n : Int) := by omega
    have hn2 : (1 : Int) < (n : Int) := by omega
    have hn3 : (2 : Int) < (n : Int) := by omega
    unfold bv at c0 c1 c2
    rw [show ad.add 0 = ad by simp [Addr.add]] at c0
    rw [addr1] at c1
    rw [addr2] at c2
    have w1 : IntKind.i64.wrap (x0.toNat : Int) = (x0.toNat : Int) := by rw [IntKind.wrap_i64]; omega
    have w2 : IntKind.i64.wrap (x1.toNat : Int) = (x1.toNat : Int) := by rw [IntKind.wrap_i64]; omega
    have w3 : IntKind.i64.wrap (x2.toNat : Int) = (x2.toNat : Int) := by rw [IntKind.wrap_i64]; omega
    have w4 : IntKind.i64.wrap ((x0.toNat : Int) * 65536) = (x0.toNat : Int) * 65536 := by rw [IntKind.wrap_i64]; omega
    have w5 : IntKind.i64.wrap ((x1.toNat : Int) * 256) = (x1.toNat : Int) * 256 := by rw [IntKind.wrap_i64]; omega
    have b1 : bits .or .i64 ((x0.toNat : Int) * 65536) ((x1.toNat : Int) * 256) = ((x0.toNat * 65536 + x1.toNat * 256 : Nat) : Int) := by
      have := or_join 16 (x0.toNat * 65536) (x1.toNat * 256) (by omega) (by omega) (by omega) (by omega)
      rw [← this, Int.natCast_mul, Int.natCast_mul]
      rfl
    have b2 : bits .or .i64 ((x0.toNat * 65536 + x1.toNat * 256 : Nat) : Int) (x2.toNat : Int) = (N : Int) := by
      rw [or_join 8 _ _ (by omega) (by omega) (by omega) (by omega), hN]
    obtain ⟨x, hx⟩ : ∃ x, ((x0.toNat * 65536 + x1.toNat * 256 : Nat) : Int) = x := ⟨_, rfl⟩
    rw [hx] at b1 b2
    have hN24 : N < 16777216 := by rw [← HSN.out]; exact hSZ.out
    clear hx hN hr hrW
    go_upto_region 3 with fail
    go_quiet (fail)
    have hbd : Below w.heap.size w (W.drewN nq) := HB0.out.trans ((below_drewN (Below.refl _ _) nq).mono HB0.out.size)
    have HC0' := Lib.hid (HC0.out.drewN nq)
    have HR0' := Lib.hid (HR0.out.drewN nq)
    have HB := Lib.hid hbd
    clear c0 c1 c2 b1 b2 w1 w2 w3 w4 w5 hm1 hm2 hm3 hn1 hn2 hn3 hbd h0 h1 h2 HC0 HR0 HB0
    generalize W.drewN nq = W at *
    have hrW := HR.out.kept fun i x hi h => (HB.out.cell (p := i) hi).trans h
    have hszW := HB.out.size
    have hfr : ∀ w', (Instr.sliceAt 42 (.slice (some ad) n c) (some (.int .i64 35)) none none).run Tryd.prog w' = .ok (.slice (cutA (some ad) c 35) (n - 35) (c - 35)) w' := fun w' => run_slice_from (P := Tryd.prog) 42 5 Tryd.underlying42 (by kernel_rfl) (some ad) n c 35 (by omega) w'
    have hto : ∀ w', (Instr.sliceAt 42 (.slice (some ad) n c) none (some (.int .i64 19)) none).run Tryd.prog w' = .ok (.slice (some ad) 19 c) w' := fun w' => run_slice_to (P := Tryd.prog) 42 5 Tryd.underlying42 (by kernel_rfl) (some ad) n c 19 (by omega) w'
    obtain ⟨AD, hAD⟩ : ∃ AD, cutA (some ad) c 35 = AD := ⟨_, rfl⟩
    obtain ⟨m, hm⟩ : ∃ m, n - 35 = m := ⟨_, rfl⟩
    have hr3 := hrW.cut (k := 35) (by omega)
    rw [hAD, hm] at hfr hr3
    have hr19 := hrW.firsts (m := 19) (by omega)
    have HRD := Lib.hid hr3
    have HM := Lib.hid hm
    have HFR : Hid (∀ W', Below W.heap.size W W' → Calls Tryd.prog 43 #[.agg (arr 32 fun i => bv (a i)), .int .i64 (N : Int)] W' fun e w' => ∃ A' c', e = .returned (.slice A' 19 c') ∧ RdB w' (fun b => b < w'.heap.size) (.slice A' 19 c') (frontB a N) ∧ Below W'.heap.size W' w') := Lib.hid fun W' hb => (front_any a N hN24 W' (HT.out.below (HB.out.trans (hb.mono hszW)))).mono (by
      rintro e w' ⟨A', c', he, h1, h2, h3⟩
      exact ⟨A', c', he, h1.mono fun i hi => hi.2, h3⟩)
    have HRL : Hid (∀ W', Below W.heap.size W W' → RdB W' (fun i => i < W'.heap.size) (.slice (some ad) 19 c) (b.take 19)) := Lib.hid fun W' hb => (hr19.kept fun i x hi h => (hb.cell (p := i) (Nat.lt_of_lt_of_le hi hszW)).trans h).mono fun i hi => Nat.lt_of_lt_of_le hi (Nat.le_trans hszW hb.size)
    obtain ⟨β, hβ⟩ : ∃ β, (b.take 19 == frontB a N) = β := ⟨_, rfl⟩
    have HBE := Lib.hid hβ
    have hbX : Below W.heap.size W W.drew := (Below.refl _ _).drew
    clear hr3 hrW hr19 hAD hm hβ hszW
    cases β
    · go_upto_region 5 with fail
      refine wp_region_held_drew (S := fun W' => Below W.heap.size W W') (by kernel_rfl) ?_ (fun hHeld => ?_)
      · exact hbX
      refine wpAnyH_take (i := 0) (oi := ⟨some 33, _, _, _, _, _⟩) (v := ?_) rfl (by kernel_rfl) (by kernel_rfl) (by kernel_rfl) (fun _ _ _ h => h) (Or.inl ⟨by rfl, ?_⟩) (by assumption) ?_
      rotate_left
      · intro w hSw; (try dsimp only at hSw); go_simp; try (with_reducible rfl)
      rotate_left 0
      try simp only [Act.put, List.setIfInBounds_toArray, List.set_cons_zero, List.set_cons_succ]
      refine wpAnyH_take (i := 1) (oi := ⟨some 34, _, _, _, _, _⟩) (v := ?_) rfl (by kernel_rfl) (by kernel_rfl) (by kernel_rfl) (fun _ _ _ h => h) (Or.inl ⟨by rfl, ?_⟩) (by assumption) ?_
      rotate_left
      · intro w hSw; (try dsimp only at hSw); go_simp; try (with_reducible rfl)
      rotate_left 0
      try simp only [Act.put, List.setIfInBounds_toArray, List.set_cons_zero, List.set_cons_succ]
      refine wpAnyH_take (i := 2) (oi := ⟨some 35, _, _, _, _, _⟩) (v := (.agg al)) rfl (by kernel_rfl) (by kernel_rfl) (by kernel_rfl) (fun _ _ _ h => h) (yieldsIf_load_blk (by rfl) 37 _ rfl w.heap.size rfl 37 _ _ (fun W' hS => HC0'.out.below hS HC0'.out.lt) Tryd.underlying37 rfl (by rw [← HAL.out, arr_size]; kernel_rfl)) (by assumption) ?_
      try simp only [Act.put, List.setIfInBounds_toArray, List.set_cons_zero, List.set_cons_succ]
      refine wpAnyH_take (i := 3) (oi := ⟨some 36, _, _, _, _, _⟩) (v := ?_) rfl (by kernel_rfl) (by kernel_rfl) (by kernel_rfl) (fun _ _ _ h => h) (Or.inl ⟨by rfl, ?_⟩) (by assumption) ?_
      rotate_left
      · intro w hSw; (try dsimp only at hSw); go_simp; try (with_reducible rfl)
      rotate_left 0
      try simp only [Act.put, List.setIfInBounds_toArray, List.set_cons_zero, List.set_cons_succ]
      refine wpAnyH_ready (rs := [4]) (by kernel_rfl) (by simp) ?_
      refine (AllReadyH.cons (o := ⟨some 37, _, _, _, _, _⟩) rfl (fun K hK => ?_) AllReadyH.nil)
      (try rw [if_pos (by rfl)])
      go_simp
      rw [← HAL.out]
      refine (HFR.out _ hbX).mono ?_
      rintro e W3 ⟨A3, c3, rfl, hr3, hb3⟩
      have hRL := HRL.out _ (hbX.trans (hb3.mono hbX.size))
      replace hbX := hbX.trans (hb3.mono hbX.size)
      try dsimp only
      refine hK.out _ _ (hbX) (fun hHeld => ?_)
      clear hK K
      try simp only [Act.put, List.setIfInBounds_toArray, List.set_cons_zero, List.set_cons_succ]
      refine wpAnyH_ready (rs := [5]) (by kernel_rfl) (by simp) ?_
      refine (AllReadyH.cons (o := ⟨some 38, _, _, _, _, _⟩) rfl (fun K hK => ?_) AllReadyH.nil)
      (try rw [if_pos (by rfl)])
      go_simp
      refine (bytesEq_any _ _ _ _ _ _ _ _ _ hRL hr3).mono ?_
      rintro e W4 ⟨rfl, rfl⟩
      rw [HBE.out]
      dsimp only
      try dsimp only
      refine hK.out _ _ (hbX) (fun hHeld => ?_)
      clear hK K
      try simp only [Act.put, List.setIfInBounds_toArray, List.set_cons_zero, List.set_cons_succ]
      refine wpAnyH_take (i := 6) (oi := ⟨some 39, _, _, _, _, _⟩) (v := ?_) rfl (by kernel_rfl) (by kernel_rfl) (by kernel_rfl) (fun _ _ _ h => h) (Or.inl ⟨by rfl, ?_⟩) (by assumption) ?_
      rotate_left
      · intro w hSw; (try dsimp only at hSw); go_simp; try (with_reducible rfl)
      rotate_left 0
      try simp only [Act.put, List.setIfInBounds_toArray, List.set_cons_zero, List.set_cons_succ]
      refine wpAnyH_take (i := 7) (oi := ⟨some 32, _, _, _, _, _⟩) (v := ?_) rfl (by kernel_rfl) (by kernel_rfl) (by kernel_rfl) (fun _ _ _ h => h) (Or.inl ⟨by rfl, ?_⟩) (by assumption) ?_
      rotate_left
      · intro w hSw; (try dsimp only at hSw); go_simp; try (with_reducible rfl)
      rotate_left 0
      try simp only [Act.put, List.setIfInBounds_toArray, List.set_cons_zero, List.set_cons_succ]
      refine wpAnyH_done (by kernel_rfl) ?_ _
      have HX0 := Lib.hid hbX
      clear hbX hRL hr3 hb3
      

      have HC : Hid (codeJ a b = 100) := Lib.hid (by unfold codeJ; rw [if_neg (by rw [HLN.out]; exact h35), HSN.out, HBE.out, if_pos rfl])
      have HRE := HR0'.out.below HX0.out HR0'.out.lt
      have HX := Lib.hid (HB.out.trans (HX0.out.mono HB.out.size))
      clear HX0
      go_wp2_with (first
              | (refine wpList_build rfl 37 #[] rfl (by kernel_rfl) ?_; simp only [List.map_toArray, List.map_nil]; rw [hz])
              | (refine wpList_store_arrW rfl 37 _ _ rfl (w.heap.size + 1) (arr 32 fun _ => bv 0) rfl rfl 37 _ HRE (by rw [arr_size]; kernel_rfl) (by rw [arr_size]) (arr_all_bv _ _) ?_; intro WE hSE hzE hbE hoE))
      refine bodyPost_ret (results_tct (p := 5) (q := 6) (r := 4) rfl _ _ (w.heap.size + 1) 37 _ _ rfl hSE Tryd.underlying37 rfl (by rw [arr_size]; kernel_rfl)) rfl ?_
      exact ⟨_, fun _ => 0, by rw [HC.out]; rfl, fun h => absurd h (by rw [HC.out]; decide), HX.out.trans (hbE.mono (Nat.le_succ _))⟩
    · by_cases hlt : m < N
      · have hli2 : decide ((m : Int) < (N : Int)) = true := decide_eq_true (by omega)
        have HC : Hid (codeJ a b = 20) := Lib.hid (by unfold codeJ; rw [if_neg (by rw [HLN.out]; exact h35), HSN.out, HBE.out, if_neg (by decide), HLN.out, HM.out, if_pos hlt])
        go_upto_region 5 with fail
        refine wp_region_held_drew (S := fun W' => Below W.heap.size W W') (by kernel_rfl) ?_ (fun hHeld => ?_)
        · exact hbX
        refine wpAnyH_take (i := 0) (oi := ⟨some 33, _, _, _, _, _⟩) (v := ?_) rfl (by kernel_rfl) (by kernel_rfl) (by kernel_rfl) (fun _ _ _ h => h) (Or.inl ⟨by rfl, ?_⟩) (by assumption) ?_
        rotate_left
        · intro w hSw; (try dsimp only at hSw); go_simp; try (with_reducible rfl)
        rotate_left 0
        try simp only [Act.put, List.setIfInBounds_toArray, List.set_cons_zero, List.set_cons_succ]
        refine wpAnyH_take (i := 1) (oi := ⟨some 34, _, _, _, _, _⟩) (v := ?_) rfl (by kernel_rfl) (by kernel_rfl) (by kernel_rfl) (fun _ _ _ h => h) (Or.inl ⟨by rfl, ?_⟩) (by assumption) ?_
        rotate_left
        · intro w hSw; (try dsimp only at hSw); go_simp; try (with_reducible rfl)
        rotate_left 0
        try simp only [Act.put, List.setIfInBounds_toArray, List.set_cons_zero, List.set_cons_succ]
        refine wpAnyH_take (i := 2) (oi := ⟨some 35, _, _, _, _, _⟩) (v := (.agg al)) rfl (by kernel_rfl) (by kernel_rfl) (by kernel_rfl) (fun _ _ _ h => h) (yieldsIf_load_blk (by rfl) 37 _ rfl w.heap.size rfl 37 _ _ (fun W' hS => HC0'.out.below hS HC0'.out.lt) Tryd.underlying37 rfl (by rw [← HAL.out, arr_size]; kernel_rfl)) (by assumption) ?_
        try simp only [Act.put, List.setIfInBounds_toArray, List.set_cons_zero, List.set_cons_succ]
        refine wpAnyH_take (i := 3) (oi := ⟨some 36, _, _, _, _, _⟩) (v := ?_) rfl (by kernel_rfl) (by kernel_rfl) (by kernel_rfl) (fun _ _ _ h => h) (Or.inl ⟨by rfl, ?_⟩) (by assumption) ?_
        rotate_left
        · intro w hSw; (try dsimp only at hSw); go_simp; try (with_reducible rfl)
        rotate_left 0
        try simp only [Act.put, List.setIfInBounds_toArray, List.set_cons_zero, List.set_cons_succ]
        refine wpAnyH_ready (rs := [4]) (by kernel_rfl) (by simp) ?_
        refine (AllReadyH.cons (o := ⟨some 37, _, _, _, _, _⟩) rfl (fun K hK => ?_) AllReadyH.nil)
        (try rw [if_pos (by rfl)])
        go_simp
        rw [← HAL.out]
        refine (HFR.out _ hbX).mono ?_
        rintro e W3 ⟨A3, c3, rfl, hr3, hb3⟩
        have hRL := HRL.out _ (hbX.trans (hb3.mono hbX.size))
        replace hbX := hbX.trans (hb3.mono hbX.size)
        try dsimp only
        refine hK.out _ _ (hbX) (fun hHeld => ?_)
        clear hK K
        try simp only [Act.put, List.setIfInBounds_toArray, List.set_cons_zero, List.set_cons_succ]
        refine wpAnyH_ready (rs := [5]) (by kernel_rfl) (by simp) ?_
        refine (AllReadyH.cons (o := ⟨some 38, _, _, _, _, _⟩) rfl (fun K hK => ?_) AllReadyH.nil)
        (try rw [if_pos (by rfl)])
        go_simp
        refine (bytesEq_any _ _ _ _ _ _ _ _ _ hRL hr3).mono ?_
        rintro e W4 ⟨rfl, rfl⟩
        rw [HBE.out]
        dsimp only
        try dsimp only
        refine hK.out _ _ (hbX) (fun hHeld => ?_)
        clear hK K
        try simp only [Act.put, List.setIfInBounds_toArray, List.set_cons_zero, List.set_cons_succ]
        refine wpAnyH_take (i := 6) (oi := ⟨some 39, _, _, _, _, _⟩) (v := ?_) rfl (by kernel_rfl) (by kernel_rfl) (by kernel_rfl) (fun _ _ _ h => h) (Or.inl ⟨by rfl, ?_⟩) (by assumption) ?_
        rotate_left
        · intro w hSw; (try dsimp only at hSw); go_simp; try (with_reducible rfl)
        rotate_left 0
        try simp only [Act.put, List.setIfInBounds_toArray, List.set_cons_zero, List.set_cons_succ]
        refine wpAnyH_take (i := 7) (oi := ⟨some 32, _, _, _, _, _⟩) (v := ?_) rfl (by kernel_rfl) (by kernel_rfl) (by kernel_rfl) (fun _ _ _ h => h) (Or.inl ⟨by rfl, ?_⟩) (by assumption) ?_
        rotate_left
        · intro w hSw; (try dsimp only at hSw); go_simp; try (with_reducible rfl)
        rotate_left 0
        try simp only [Act.put, List.setIfInBounds_toArray, List.set_cons_zero, List.set_cons_succ]
        refine wpAnyH_done (by kernel_rfl) ?_ _
        have HX0 := Lib.hid hbX
        clear hbX hRL hr3 hb3
        

        have HRE := HR0'.out.below HX0.out HR0'.out.lt
        have HX := Lib.hid (HB.out.trans (HX0.out.mono HB.out.size))
        clear HX0
        go_wp2_with (first
                | (refine wpList_build rfl 37 #[] rfl (by kernel_rfl) ?_; simp only [List.map_toArray, List.map_nil]; rw [hz])
                | (refine wpList_store_arrW rfl 37 _ _ rfl (w.heap.size + 1) (arr 32 fun _ => bv 0) rfl rfl 37 _ HRE (by rw [arr_size]; kernel_rfl) (by rw [arr_size]) (arr_all_bv _ _) ?_; intro WE hSE hzE hbE hoE))
        refine bodyPost_ret (results_tct (p := 5) (q := 6) (r := 4) rfl _ _ (w.heap.size + 1) 37 _ _ rfl hSE Tryd.underlying37 rfl (by rw [arr_size]; kernel_rfl)) rfl ?_
        exact ⟨_, fun _ => 0, by rw [HC.out]; rfl, fun h => absurd h (by rw [HC.out]; decide), HX.out.trans (hbE.mono (Nat.le_succ _))⟩
      · have hli2 : decide ((m : Int) < (N : Int)) = false := decide_eq_false (by omega)
        have hto2 : ∀ w', (Instr.sliceAt 42 (.slice AD m (c - 35)) none (some (.int .i64 (N : Int))) none).run Tryd.prog w' = .ok (.slice AD N (c - 35)) w' := fun w' => run_slice_to (P := Tryd.prog) 42 5 Tryd.underlying42 (by kernel_rfl) AD m (c - 35) N (by have := HM.out; omega) w'
        have HDA : Hid (RdB W (fun i => i < w.heap.size) (.slice AD N (c - 35)) (dataJ b)) := Lib.hid (by unfold dataJ; rw [HSN.out]; exact HRD.out.firsts (by omega))
        have HDL : Hid ((dataJ b).length = N) := Lib.hid (by unfold dataJ; rw [HSN.out, List.length_take, List.length_drop, HLN.out, HM.out]; omega)
        go_upto_region 5 with fail
        refine wp_region_held_drew (S := fun W' => Below W.heap.size W W') (by kernel_rfl) ?_ (fun hHeld => ?_)
        · exact hbX
        refine wpAnyH_take (i := 0) (oi := ⟨some 33, _, _, _, _, _⟩) (v := ?_) rfl (by kernel_rfl) (by kernel_rfl) (by kernel_rfl) (fun _ _ _ h => h) (Or.inl ⟨by rfl, ?_⟩) (by assumption) ?_
        rotate_left
        · intro w hSw; (try dsimp only at hSw); go_simp; try (with_reducible rfl)
        rotate_left 0
        try simp only [Act.put, List.setIfInBounds_toArray, List.set_cons_zero, List.set_cons_succ]
        refine wpAnyH_take (i := 1) (oi := ⟨some 34, _, _, _, _, _⟩) (v := ?_) rfl (by kernel_rfl) (by kernel_rfl) (by kernel_rfl) (fun _ _ _ h => h) (Or.inl ⟨by rfl, ?_⟩) (by assumption) ?_
        rotate_left
        · intro w hSw; (try dsimp only at hSw); go_simp; try (with_reducible rfl)
        rotate_left 0
        try simp only [Act.put, List.setIfInBounds_toArray, List.set_cons_zero, List.set_cons_succ]
        refine wpAnyH_take (i := 2) (oi := ⟨some 35, _, _, _, _, _⟩) (v := (.agg al)) rfl (by kernel_rfl) (by kernel_rfl) (by kernel_rfl) (fun _ _ _ h => h) (yieldsIf_load_blk (by rfl) 37 _ rfl w.heap.size rfl 37 _ _ (fun W' hS => HC0'.out.below hS HC0'.out.lt) Tryd.underlying37 rfl (by rw [← HAL.out, arr_size]; kernel_rfl)) (by assumption) ?_
        try simp only [Act.put, List.setIfInBounds_toArray, List.set_cons_zero, List.set_cons_succ]
        refine wpAnyH_take (i := 3) (oi := ⟨some 36, _, _, _, _, _⟩) (v := ?_) rfl (by kernel_rfl) (by kernel_rfl) (by kernel_rfl) (fun _ _ _ h => h) (Or.inl ⟨by rfl, ?_⟩) (by assumption) ?_
        rotate_left
        · intro w hSw; (try dsimp only at hSw); go_simp; try (with_reducible rfl)
        rotate_left 0
        try simp only [Act.put, List.setIfInBounds_toArray, List.set_cons_zero, List.set_cons_succ]
        refine wpAnyH_ready (rs := [4]) (by kernel_rfl) (by simp) ?_
        refine (AllReadyH.cons (o := ⟨some 37, _, _, _, _, _⟩) rfl (fun K hK => ?_) AllReadyH.nil)
        (try rw [if_pos (by rfl)])
        go_simp
        rw [← HAL.out]
        refine (HFR.out _ hbX).mono ?_
        rintro e W3 ⟨A3, c3, rfl, hr3, hb3⟩
        have hRL := HRL.out _ (hbX.trans (hb3.mono hbX.size))
        replace hbX := hbX.trans (hb3.mono hbX.size)
        try dsimp only
        refine hK.out _ _ (hbX) (fun hHeld => ?_)
        clear hK K
        try simp only [Act.put, List.setIfInBounds_toArray, List.set_cons_zero, List.set_cons_succ]
        refine wpAnyH_ready (rs := [5]) (by kernel_rfl) (by simp) ?_
        refine (AllReadyH.cons (o := ⟨some 38, _, _, _, _, _⟩) rfl (fun K hK => ?_) AllReadyH.nil)
        (try rw [if_pos (by rfl)])
        go_simp
        refine (bytesEq_any _ _ _ _ _ _ _ _ _ hRL hr3).mono ?_
        rintro e W4 ⟨rfl, rfl⟩
        rw [HBE.out]
        dsimp only
        try dsimp only
        refine hK.out _ _ (hbX) (fun hHeld => ?_)
        clear hK K
        try simp only [Act.put, List.setIfInBounds_toArray, List.set_cons_zero, List.set_cons_succ]
        refine wpAnyH_take (i := 6) (oi := ⟨some 39, _, _, _, _, _⟩) (v := ?_) rfl (by kernel_rfl) (by kernel_rfl) (by kernel_rfl) (fun _ _ _ h => h) (Or.inl ⟨by rfl, ?_⟩) (by assumption) ?_
        rotate_left
        · intro w hSw; (try dsimp only at hSw); go_simp; try (with_reducible rfl)
        rotate_left 0
        try simp only [Act.put, List.setIfInBounds_toArray, List.set_cons_zero, List.set_cons_succ]
        refine wpAnyH_take (i := 7) (oi := ⟨some 32, _, _, _, _, _⟩) (v := ?_) rfl (by kernel_rfl) (by kernel_rfl) (by kernel_rfl) (fun _ _ _ h => h) (Or.inl ⟨by rfl, ?_⟩) (by assumption) ?_
        rotate_left
        · intro w hSw; (try dsimp only at hSw); go_simp; try (with_reducible rfl)
        rotate_left 0
        try simp only [Act.put, List.setIfInBounds_toArray, List.set_cons_zero, List.set_cons_succ]
        refine wpAnyH_done (by kernel_rfl) ?_ _
        have HX0 := Lib.hid hbX
        clear hbX hRL hr3 hb3
        

        have HC4 := Lib.hid (HC0'.out.below HX0.out HC0'.out.lt)
        have HR4 := Lib.hid (HR0'.out.below HX0.out HR0'.out.lt)
        have HX := Lib.hid (HB.out.trans (HX0.out.mono HB.out.size))
        have HWI := Lib.hid (with_any a AD N (c - 35) (dataJ b) HDL.out (by omega) W4 (HT.out.below HX.out) ((HDA.out.kept fun i x hi h => (HX0.out.cell (p := i) (Nat.lt_of_lt_of_le hi HB.out.size)).trans h).mono fun i hi => Nat.lt_of_lt_of_le hi HX.out.size))
        obtain ⟨f, hf⟩ : ∃ f, withD a (dataJ b) = f := ⟨_, rfl⟩
        have HF := Lib.hid hf
        rw [hf] at HWI
        clear HC0' HR0' hf
        go_upto_region 10 with fail
        go_wp2_with (refine wpList_load_arr rfl 37 _ rfl w.heap.size rfl 37 _ _ HC4.out Tryd.underlying37 rfl (by rw [← HAL.out, arr_size]; kernel_rfl) ?_)
        rw [← HAL.out]
        refine HWI.out.mono ?_
        rintro e W5 ⟨rfl, hb5⟩
        dsimp only
        go_upto_region 11 with (refine wpList_store_row rfl 37 _ _ rfl W5.heap.size (arr 32 fun i => bv (f i)) rfl rfl 37 _ (heap_alloc_new W5 _) (by rw [arr_size]; kernel_rfl) (by rw [arr_size]; rfl) (arr_all_bv _ _) ?_; rw [World.setRow_alloc_new])
        have HNE : Hid (w.heap.size + 1 < W5.heap.size) := Lib.hid (Nat.lt_of_lt_of_le HR4.out.lt hb5.size)
        generalize hW6 : World.alloc W5 _ = W6
        have hb6 : Below W5.heap.size W5 W6 := by rw [← hW6]; exact (Below.refl _ _).alloc (Nat.le_refl _) _
        have k9 : Blk W6 W5.heap.size 37 (arr 32 fun i => bv (f i)) := by rw [← hW6]; exact Blk.newAt _ _ rfl rfl
        have hX6 : Below w.heap.size w W6 := HX.out.trans ((hb5.trans (hb6.mono hb5.size)).mono HX.out.size)
        have hr5 := HR4.out.below (hb5.trans (hb6.mono hb5.size)) HR4.out.lt
        have hRL := (((HR.out.kept fun i x hi h => (hX6.drew.cell (p := i) hi).trans h).mono fun i hi => Nat.lt_of_lt_of_le hi hX6.drew.size).firsts (m := 35) (by omega)).cut (k := 19) (by omega)
        have hRI := (rdB_id (ok := fun i => i < W6.drew.heap.size) k9.drew k9.drew.lt).firsts (m := 16) (by omega)
        have hs1 : ∀ w', (Instr.sliceAt 42 (.slice (some ad) n c) (some (.int .i64 19)) (some (.int .i64 35)) none).run Tryd.prog w' = .ok (.slice (cutA (some ad) c 19) (35 - 19) (c - 19)) w' := fun w' => run_slice_rangeB (P := Tryd.prog) 42 5 Tryd.underlying42 (by kernel_rfl) (some ad) n c 19 35 (by omega) (by omega) w'
        have hs2 : ∀ w', (Instr.sliceAt 37 (.pointer (some ⟨W5.heap.size, 0, none⟩)) none (some (.int .i64 16)) none).run Tryd.prog w' = .ok (.slice (some ⟨W5.heap.size, 0, none⟩) 16 32) w' := fun w' => by kernel_rfl
        obtain ⟨γ, hγ⟩ : ∃ γ, ((b.take 35).drop 19 == (id32 f).take 16) = γ := ⟨_, rfl⟩
        have HGE := Lib.hid hγ
        have HX6 := Lib.hid hX6
        have HK9 := Lib.hid k9
        have HR5 := Lib.hid hr5
        have hbX : Below W6.heap.size W6 W6.drew := (Below.refl _ _).drew
        clear hW6 hb6 k9 hX6 hr5 hb5 HC4 HR4 hγ HWI
        cases γ
        · have HC : Hid (codeJ a b = 100) := Lib.hid (by unfold codeJ; rw [if_neg (by rw [HLN.out]; exact h35), HSN.out, HBE.out, if_neg (by decide), HLN.out, HM.out, if_neg hlt, HF.out, HGE.out, if_pos rfl])
          refine wp_region_held_drew (S := fun W' => Below W6.heap.size W6 W') (by kernel_rfl) ?_ (fun hHeld => ?_)
          · exact hbX
          refine wpAnyH_take (i := 0) (oi := ⟨some 53, _, _, _, _, _⟩) (v := ?_) rfl (by kernel_rfl) (by kernel_rfl) (by kernel_rfl) (fun _ _ _ h => h) (Or.inl ⟨by rfl, ?_⟩) (by assumption) ?_
          rotate_left
          · intro w hSw; (try dsimp only at hSw); go_simp; try (with_reducible rfl)
          rotate_left 0
          try simp only [Act.put, List.setIfInBounds_toArray, List.set_cons_zero, List.set_cons_succ]
          refine wpAnyH_take (i := 1) (oi := ⟨some 54, _, _, _, _, _⟩) (v := ?_) rfl (by kernel_rfl) (by kernel_rfl) (by kernel_rfl) (fun _ _ _ h => h) (Or.inl ⟨by rfl, ?_⟩) (by assumption) ?_
          rotate_left
          · intro w hSw; (try dsimp only at hSw); go_simp; try (with_reducible rfl)
          rotate_left 0
          try simp only [Act.put, List.setIfInBounds_toArray, List.set_cons_zero, List.set_cons_succ]
          refine wpAnyH_take (i := 2) (oi := ⟨some 55, _, _, _, _, _⟩) (v := ?_) rfl (by kernel_rfl) (by kernel_rfl) (by kernel_rfl) (fun _ _ _ h => h) (Or.inl ⟨by rfl, ?_⟩) (by assumption) ?_
          rotate_left
          · intro w hSw; (try dsimp only at hSw); go_simp; try (with_reducible rfl)
          rotate_left 0
          try simp only [Act.put, List.setIfInBounds_toArray, List.set_cons_zero, List.set_cons_succ]
          refine wpAnyH_ready (rs := [3]) (by kernel_rfl) (by simp) ?_
          refine (AllReadyH.cons (o := ⟨some 56, _, _, _, _, _⟩) rfl (fun K hK => ?_) AllReadyH.nil)
          (try rw [if_pos (by rfl)])
          go_simp
          refine (bytesEq_any _ _ _ _ _ _ _ _ _ hRL hRI).mono ?_
          rintro e W7 ⟨rfl, rfl⟩
          rw [HGE.out]
          dsimp only
          try dsimp only
          refine hK.out _ _ (hbX) (fun hHeld => ?_)
          clear hK K
          try simp only [Act.put, List.setIfInBounds_toArray, List.set_cons_zero, List.set_cons_succ]
          refine wpAnyH_take (i := 4) (oi := ⟨some 57, _, _, _, _, _⟩) (v := ?_) rfl (by kernel_rfl) (by kernel_rfl) (by kernel_rfl) (fun _ _ _ h => h) (Or.inl ⟨by rfl, ?_⟩) (by assumption) ?_
          rotate_left
          · intro w hSw; (try dsimp only at hSw); go_simp; try (with_reducible rfl)
          rotate_left 0
          try simp only [Act.put, List.setIfInBounds_toArray, List.set_cons_zero, List.set_cons_succ]
          refine wpAnyH_done (by kernel_rfl) ?_ _
          have HRE := HR5.out.below hbX HR5.out.lt
          have HX := Lib.hid (HX6.out.trans (hbX.mono HX6.out.size))
          clear hbX hRL hRI
          go_wp2_with (first
            | (refine wpList_build rfl 37 #[] rfl (by kernel_rfl) ?_; simp only [List.map_toArray, List.map_nil]; rw [hz])
            | (refine wpList_store_arrW rfl 37 _ _ rfl (w.heap.size + 1) (arr 32 fun _ => bv 0) rfl rfl 37 _ HRE (by rw [arr_size]; kernel_rfl) (by rw [arr_size]) (arr_all_bv _ _) ?_; intro WE hSE hzE hbE hoE))
          refine bodyPost_ret (results_tct (p := 5) (q := 6) (r := 4) rfl _ _ (w.heap.size + 1) 37 _ _ rfl hSE Tryd.underlying37 rfl (by rw [arr_size]; kernel_rfl)) rfl ?_
          exact ⟨_, fun _ => 0, by rw [HC.out]; rfl, fun h => absurd h (by rw [HC.out]; decide), HX.out.trans (hbE.mono (Nat.le_succ _))⟩
        · have HC : Hid (codeJ a b = 0) := Lib.hid (by unfold codeJ; rw [if_neg (by rw [HLN.out]; exact h35), HSN.out, HBE.out, if_neg (by decide), HLN.out, HM.out, if_neg hlt, HF.out, HGE.out, if_neg (by decide)])
          refine wp_region_held_drew (S := fun W' => Below W6.heap.size W6 W') (by kernel_rfl) ?_ (fun hHeld => ?_)
          · exact hbX
          refine wpAnyH_take (i := 0) (oi := ⟨some 53, _, _, _, _, _⟩) (v := ?_) rfl (by kernel_rfl) (by kernel_rfl) (by kernel_rfl) (fun _ _ _ h => h) (Or.inl ⟨by rfl, ?_⟩) (by assumption) ?_
          rotate_left
          · intro w hSw; (try dsimp only at hSw); go_simp; try (with_reducible rfl)
          rotate_left 0
          try simp only [Act.put, List.setIfInBounds_toArray, List.set_cons_zero, List.set_cons_succ]
          refine wpAnyH_take (i := 1) (oi := ⟨some 54, _, _, _, _, _⟩) (v := ?_) rfl (by kernel_rfl) (by kernel_rfl) (by kernel_rfl) (fun _ _ _ h => h) (Or.inl ⟨by rfl, ?_⟩) (by assumption) ?_
          rotate_left
          · intro w hSw; (try dsimp only at hSw); go_simp; try (with_reducible rfl)
          rotate_left 0
          try simp only [Act.put, List.setIfInBounds_toArray, List.set_cons_zero, List.set_cons_succ]
          refine wpAnyH_take (i := 2) (oi := ⟨some 55, _, _, _, _, _⟩) (v := ?_) rfl (by kernel_rfl) (by kernel_rfl) (by kernel_rfl) (fun _ _ _ h => h) (Or.inl ⟨by rfl, ?_⟩) (by assumption) ?_
          rotate_left
          · intro w hSw; (try dsimp only at hSw); go_simp; try (with_reducible rfl)
          rotate_left 0
          try simp only [Act.put, List.setIfInBounds_toArray, List.set_cons_zero, List.set_cons_succ]
          refine wpAnyH_ready (rs := [3]) (by kernel_rfl) (by simp) ?_
          refine (AllReadyH.cons (o := ⟨some 56, _, _, _, _, _⟩) rfl (fun K hK => ?_) AllReadyH.nil)
          (try rw [if_pos (by rfl)])
          go_simp
          refine (bytesEq_any _ _ _ _ _ _ _ _ _ hRL hRI).mono ?_
          rintro e W7 ⟨rfl, rfl⟩
          rw [HGE.out]
          dsimp only
          try dsimp only
          refine hK.out _ _ (hbX) (fun hHeld => ?_)
          clear hK K
          try simp only [Act.put, List.setIfInBounds_toArray, List.set_cons_zero, List.set_cons_succ]
          refine wpAnyH_take (i := 4) (oi := ⟨some 57, _, _, _, _, _⟩) (v := ?_) rfl (by kernel_rfl) (by kernel_rfl) (by kernel_rfl) (fun _ _ _ h => h) (Or.inl ⟨by rfl, ?_⟩) (by assumption) ?_
          rotate_left
          · intro w hSw; (try dsimp only at hSw); go_simp; try (with_reducible rfl)
          rotate_left 0
          try simp only [Act.put, List.setIfInBounds_toArray, List.set_cons_zero, List.set_cons_succ]
          refine wpAnyH_done (by kernel_rfl) ?_ _
          have hX := HX6.out.trans (hbX.mono HX6.out.size)
          have HX := Lib.hid hX
          have HRE := Lib.hid (HR5.out.below hbX HR5.out.lt)
          have HK := Lib.hid (HK9.out.below hbX HK9.out.lt)
          clear hbX hRL hRI hX
          go_upto_region 13 with fail
          refine wp_region_held_drew (S := fun W' => Blk W' W5.heap.size 37 (arr 32 fun i => bv (f i))) (by kernel_rfl) ?_ (fun hHeld => ?_)
          · exact HK.out.drew
          refine wpAnyH_take (i := 0) (oi := ⟨some 59, _, _, _, _, _⟩) (v := ?_) rfl (by kernel_rfl) (by kernel_rfl) (by kernel_rfl) (fun _ _ _ h => h) (Or.inl ⟨by rfl, ?_⟩) (by assumption) ?_
          rotate_left
          · intro w hSw; (try dsimp only at hSw); go_simp; try (with_reducible rfl)
          rotate_left 0
          try simp only [Act.put, List.setIfInBounds_toArray, List.set_cons_zero, List.set_cons_succ]
          refine wpAnyH_take (i := 1) (oi := ⟨some 60, _, _, _, _, _⟩) (v := (.agg (arr 32 fun i => bv (f i)))) rfl (by kernel_rfl) (by kernel_rfl) (by kernel_rfl) (fun _ _ _ h => h) (yieldsIf_load_blk (by rfl) 37 _ rfl W5.heap.size rfl 37 _ _ (fun W' hS => hS) Tryd.underlying37 rfl (by rw [arr_size]; kernel_rfl)) (by assumption) ?_
          try simp only [Act.put, List.setIfInBounds_toArray, List.set_cons_zero, List.set_cons_succ]
          refine wpAnyH_take (i := 2) (oi := ⟨some 4, _, _, _, _, _⟩) (v := ?_) rfl (by kernel_rfl) (by kernel_rfl) (by kernel_rfl) (fun _ _ _ h => h) (Or.inl ⟨by rfl, ?_⟩) (by assumption) ?_
          rotate_left
          · intro w hSw; (try dsimp only at hSw); go_simp; try (with_reducible rfl)
          rotate_left 0
          try simp only [Act.put, List.setIfInBounds_toArray, List.set_cons_zero, List.set_cons_succ]
          refine wpAnyH_ready (rs := [3]) (by kernel_rfl) (by simp) ?_
          refine (AllReadyH.cons (o := ⟨none, _, _, _, _, _⟩) rfl (fun K hK => ?_) AllReadyH.nil)
          (try rw [if_pos (by rfl)])
          refine wp_store_row 37 _ _ rfl (w.heap.size + 1) (arr 32 fun i => bv (f i)) rfl rfl 37 _ HRE.out.drew (by rw [arr_size]; kernel_rfl) (by rw [arr_size, arr_size]) (arr_all_bv _ _) ?_
          have hk9 : Blk (World.setRow W6.drew.drew (w.heap.size + 1) (arr 32 fun i => bv (f i))) W5.heap.size 37 (arr 32 fun i => bv (f i)) := by unfold Blk; rw [setRow_other _ _ _ _ (by have := HNE.out; omega)]; exact HK.out.drew
          try dsimp only
          refine hK.out _ _ (hk9) (fun hHeld => ?_)
          clear hK K
          try simp only [Act.put]
          refine wpAnyH_take (i := 4) (oi := ⟨some 6, _, _, _, _, _⟩) (v := ?_) rfl (by kernel_rfl) (by kernel_rfl) (by kernel_rfl) (fun _ _ _ h => h) (Or.inl ⟨by rfl, ?_⟩) (by assumption) ?_
          rotate_left
          · intro w hSw; (try dsimp only at hSw); go_simp; try (with_reducible rfl)
          rotate_left 0
          try simp only [Act.put, List.setIfInBounds_toArray, List.set_cons_zero, List.set_cons_succ]
          refine wpAnyH_done (by kernel_rfl) ?_ _
          go_wp2_with fail
          have hb := below_setRow HX.out.drew (g := w.heap.size + 1) (Nat.le_succ _) (arr 32 fun i => bv (f i))
          refine bodyPost_ret (results_tct (p := 5) (q := 6) (r := 4) rfl _ _ (w.heap.size + 1) 37 _ _ rfl (HRE.out.drew.setRow _) Tryd.underlying37 rfl (by rw [arr_size]; kernel_rfl)) rfl ?_
          exact ⟨_, f, by rw [HC.out]; rfl, fun _ => ⟨⟨_, _, by rw [HSN.out]⟩, HDA.out.kept fun i x hi h => (hb.cell (p := i) hi).trans ((HB.out.cell (p := i) hi).symm.trans h), HF.out.symm⟩, hb⟩
end Go.Proofs.YtkbdkeclbokhdaaDoor
