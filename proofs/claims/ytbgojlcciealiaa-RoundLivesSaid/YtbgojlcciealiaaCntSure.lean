/-
  The count of votes: what is sure. No condition.
-/
import Derived.Test.YtbgojlcciealiaaCntTally
import Derived.Test.YtbgojlcciealiaaRound
namespace Go.Proofs.Ytbgojlcciealiaa
open Go Go.RowKit Go.Maps
attribute [local go_sem] Oper.semAt_some

theorem results_cells {P : Program} {fn : Func} {p q : Tmp} {ty ty' : TypeId} (h : fn.results = #[.cell p ty, .cell q ty']) (tmps : Array Value) (w : World) (a b : Addr) (x y : Value)
    (hp : tmps.getD p undef = .pointer (some a)) (hq : tmps.getD q undef = .pointer (some b)) (hx : (Go.loadVar ty a).run P w = .ok x w) (hy : (Go.loadVar ty' b).run P w = .ok y w) :
    (results fn tmps).run P w = .ok (.tuple #[x, y]) w := by
  have hp' : tmps[p]?.getD undef = .pointer (some a) := by simpa using hp
  have hq' : tmps[q]?.getD undef = .pointer (some b) := by simpa using hq
  simp [results, h, hp', hq', asAddr, hx, hy]
theorem run_loadVar_idv {w : World} {g : Nat} {t : TypeId} {l : List UInt8} (hl : IdOk l) (hg : Blk w g t (idC l)) : (Go.loadVar 24 ⟨g, 0, none⟩).run Try.prog w = .ok (idv l) w :=
  run_loadVar_row w g t 24 (idC l) (0, 0) _ hg Try.underlying24 rfl (by rw [idC_size hl]; exact id_info)
theorem find_first {α : Type} (p : α → Bool) (l : List α) (x : α) (h : ∀ a ∈ l, p a = false) (hx : p x = true) (m : List α) : (l ++ [x] ++ m).find? p = some x := by
  rw [List.append_assoc, List.find?_append, List.find?_eq_none.2 (fun a ha => by rw [h a ha]; simp)]
  simp [hx]
/-- Nobody of these makes it sure. -/
def Unsure (NN : Nat) (V : Vt) (r k : Int) (pre : List (Nat × List UInt8)) : Prop := ∀ p ∈ pre, decide (need NN ≤ (forN NN V r k p.2 : Int)) = false
/-- It is sure by the last of these. -/
def SureX (W : World) (NN : Nat) (V : Vt) (r k : Int) (c : Code) (pre : List (Nat × List UInt8)) (W' : World) : Prop :=
  c = .ret ∧ ∃ pre' x, pre = pre' ++ [x] ∧ Unsure NN V r k pre' ∧ decide (need NN ≤ (forN NN V r k x.2 : Int)) = true ∧ IdOk x.2 ∧ Blk W' (W.heap.size + 1 + 1 + 1) 24 (idC x.2) ∧ Blk W' (W.heap.size + 1 + 1 + 1 + 1) 4 #[.bool true] ∧ Below W.heap.size W W'
structure SureI (W W' : World) (b1 b2 b3 B M n NN : Nat) (V : Vt) (r k : Int) : Prop where
  k3 : Blk W' W.heap.size 28 #[.pointer (some ⟨B, 0, none⟩)]
  k4 : Blk W' (W.heap.size + 1) 3 #[.int .i64 r]
  k5 : Blk W' (W.heap.size + 1 + 1) 3 #[.int .i64 k]
  k6 : ∃ old, Blk W' (W.heap.size + 1 + 1 + 1) 24 old ∧ old.size = 32
  k7 : ∃ v, Blk W' (W.heap.size + 1 + 1 + 1 + 1) 4 #[v]
  inv : CastInv b1 b2 b3 B M n NN V r k W'
  below : Below W.heap.size W W'
theorem SureI.keep {W W' W'' : World} {b1 b2 b3 B M n NN : Nat} {V : Vt} {r k : Int} {Bd : Nat} (h : SureI W W' b1 b2 b3 B M n NN V r k) (hb : Below Bd W' W'') (hBd : W.heap.size + 5 ≤ Bd) (hlt : B < Bd ∧ M < Bd ∧ b1 < Bd ∧ b2 < Bd ∧ b3 < Bd) : SureI W W'' b1 b2 b3 B M n NN V r k := by
  obtain ⟨h1, h2, h3, ⟨o, h4, h4'⟩, ⟨v, h5⟩, ⟨h6, h7⟩, h8⟩ := h
  exact ⟨h1.below hb (by omega), h2.below hb (by omega), h3.below hb (by omega), ⟨o, h4.below hb (by omega), h4'⟩, ⟨v, h5.below hb (by omega)⟩, ⟨h6.same (hb.block _ hlt.1) (hb.block _ hlt.2.1), h7.same (hb.block _ hlt.2.2.1) (hb.block _ hlt.2.2.2.1) (hb.block _ hlt.2.2.2.2)⟩, h8.trans (hb.mono (by omega))⟩
set_option maxRecDepth 100000 in
set_option maxHeartbeats 8000000 in
theorem sure_any {W : World} {B M n : Nat} {NN : Nat} {V : Vt} (h : CountAt W B M n NN V) (r k : Int) (hr : wfi r) (hk : wfi k) (hN : NN ≤ 1000) :
    Calls Try.prog 22 #[.pointer (some ⟨B, 0, none⟩), .int .i64 r, .int .i64 k] W fun e w' => e = .returned (.tuple #[idv ((sureO NN V r k).getD zeroId), .bool (sureO NN V r k).isSome]) ∧ Below W.heap.size W w' := by
  have HC := Lib.hid h
  have HW := Lib.hid (And.intro hr hk)
  have HLT0 : Hid (B < W.heap.size ∧ M < W.heap.size) := Lib.hid ⟨h.ltB, h.ltM⟩
  clear h hr hk
  refine (callsIn_wide (n := 0)).1 ?_
  refine callsIn_of_wp_marks Try.func22 rfl trivial ?_ rfl
  simp only [Try.ntmps22, List.size_toArray, List.length_cons, List.length_nil, Nat.reduceAdd, Nat.reduceSub, Array.replicate_succ, Array.replicate_zero, List.push_toArray, List.append_toArray, List.nil_append, List.cons_append]
  refine wpIn_wide.2 ?_
  go_upto_region 1 with fail
  generalize hW0 : World.alloc _ _ = W0
  have hz0 : W0.heap.size = W.heap.size + 5 := by rw [← hW0]; simp
  have hb0 : Below W.heap.size W W0 := by rw [← hW0]; exact (((((Below.refl _ W).alloc (Nat.le_refl _) _).alloc (by simp) _).alloc (by simp; omega) _).alloc (by simp; omega) _).alloc (by simp; omega) _
  have k3 : Blk W0 W.heap.size 28 #[.pointer (some ⟨B, 0, none⟩)] := by rw [← hW0]; exact ((((Blk.newAt W _ rfl rfl).alloc _).alloc _).alloc _).alloc _
  have k4 : Blk W0 (W.heap.size + 1) 3 #[.int .i64 r] := by rw [← hW0]; exact (((Blk.newAt _ _ (by simp) rfl).alloc _).alloc _).alloc _
  have k5 : Blk W0 (W.heap.size + 1 + 1) 3 #[.int .i64 k] := by rw [← hW0]; exact ((Blk.newAt _ _ (by simp) rfl).alloc _).alloc _
  have k6 : ∃ old, Blk W0 (W.heap.size + 1 + 1 + 1) 24 old ∧ old.size = 32 := by rw [← hW0]; exact ⟨_, (Blk.newAt _ _ (by simp) rfl).alloc _, rfl⟩
  have k7 : Blk W0 (W.heap.size + 1 + 1 + 1 + 1) 4 #[.bool false] := by rw [← hW0]; exact Blk.newAt _ _ (by simp) rfl
  have c3 : W0.cell? ⟨W.heap.size, 0, none⟩ = some (.pointer (some ⟨B, 0, none⟩)) := by rw [k3.cell]; rfl
  have c4 : W0.cell? ⟨W.heap.size + 1, 0, none⟩ = some (.int .i64 r) := by rw [k4.cell]; rfl
  have c5 : W0.cell? ⟨W.heap.size + 1 + 1, 0, none⟩ = some (.int .i64 k) := by rw [k5.cell]; rfl
  have HK := Lib.hid (And.intro k3 (And.intro k4 (And.intro k5 (And.intro k6 k7))))
  have HB0 := Lib.hid hb0
  have HZ0 := Lib.hid hz0
  clear hW0 hb0 k3 k4 k5 k6 k7 hz0
  go_wp2_with (first
    | (go_at_call 53; refine (cast_any B r k W0).mono ?_; rintro e W1 ⟨rfl, hca, hb1⟩; have HCA := Lib.hid hca; have HB1 := Lib.hid hb1; clear hb1 hca c3 c4 c5))
  rw [HZ0.out] at HCA ⊢
  have hlt1 : W.heap.size + 5 < W1.heap.size := by have := HCA.out.k1.lt; omega
  have hlt3 : W.heap.size + 5 + 1 + 1 < W1.heap.size := HCA.out.k3.lt
  have I0 : SureI W W1 (W.heap.size + 5) (W.heap.size + 5 + 1) (W.heap.size + 5 + 1 + 1) B M n NN V r k := by
    obtain ⟨k3, k4, k5, ⟨o, k6, ho⟩, k7⟩ := HK.out
    have hb := HB1.out
    have hB := HB0.out.trans (hb.mono HB0.out.size)
    exact ⟨k3.below hb k3.lt, k4.below hb k4.lt, k5.below hb k5.lt, ⟨o, k6.below hb k6.lt, ho⟩, ⟨_, k7.below hb k7.lt⟩, ⟨HC.out.below hB, HCA.out⟩, hB⟩
  refine (wpIn_wide (n := 0)).1 ?_
  refine wpIn_rangeFunc_D (gf := 67) (lb := #[.pointer (some ⟨W.heap.size + 5, 0, none⟩), .pointer (some ⟨W.heap.size + 5 + 1, 0, none⟩), .pointer (some ⟨W.heap.size + 5 + 1 + 1, 0, none⟩)]) rfl (enters_of Try.func67 (by kernel_rfl) rfl)
    (cast_seq (W.heap.size + 5) (W.heap.size + 5 + 1) (W.heap.size + 5 + 1 + 1) B M n NN V r k (fun _ => False) W1 HW.out.1 HW.out.2 hN) (fun _ => rfl)
    (fun pre W' => Unsure NN V r k pre ∧ SureI W W' (W.heap.size + 5) (W.heap.size + 5 + 1) (W.heap.size + 5 + 1 + 1) B M n NN V r k)
    (SureX W NN V r k)
    (fun s A' B' hs hb => ⟨hs.1, hs.2.keep hb (by omega) ⟨by have := HLT0.out; omega, by have := HLT0.out; omega, by omega, by omega, by omega⟩⟩)
    (fun s W' hs => hs.2.inv)
    (fun c s A' B' hs hb => by
      obtain ⟨h0, p', x, h1, h2, h3, h4, h5, h6, h7⟩ := hs
      exact ⟨h0, p', x, h1, h2, h3, h4, h5.below hb (by omega), h6.below hb (by omega), h7.trans (hb.mono (by omega))⟩)
    ⟨(fun p hp => by cases hp), I0⟩
    (fun x a' W' => ∃ Bx, W.heap.size + 5 + 3 ≤ Bx ∧ IdOk x.2 ∧ Blk W' Bx 24 (idC x.2) ∧ a' = { tmps := #[.pointer (some ⟨B, 0, none⟩), .int .i64 r, .int .i64 k, .pointer (some ⟨W.heap.size, 0, none⟩), .pointer (some ⟨W.heap.size + 1, 0, none⟩), .pointer (some ⟨W.heap.size + 1 + 1, 0, none⟩), .pointer (some ⟨W.heap.size + 1 + 1 + 1, 0, none⟩), .pointer (some ⟨W.heap.size + 1 + 1 + 1 + 1, 0, none⟩), undef, .pointer (some ⟨Bx, 0, none⟩), .pointer (some ⟨B, 0, none⟩), .int .i64 r, .int .i64 k, .func (.func 67) #[] #[.pointer (some ⟨W.heap.size + 5, 0, none⟩), .pointer (some ⟨W.heap.size + 5 + 1, 0, none⟩), .pointer (some ⟨W.heap.size + 5 + 1 + 1, 0, none⟩)], .int .i64 (x.1 : Int), idv x.2, undef, undef, undef, undef, undef, undef, undef, undef, undef, undef, undef, undef, undef], defers := [] })
    (fun x a' W' l o o' _ h1 h2 h3 => by
      obtain ⟨Bx, q1, q4, q2, q3⟩ := h3
      exact ⟨Bx, q1, q4, q2.putObj o' h1 h2, q3⟩) ?assign ?body ?done ?stop
  case assign =>
    intro l pre x W' K hlt hpre hi hK
    have hxin : x ∈ castL NN V r k := (hpre.subset) (by simp)
    have hxok : IdOk x.2 := (hi.2.inv.1.ids _ _ _ _ (mem_castL.1 hxin).2).1
    have HI := Lib.hid hi
    have HXO := Lib.hid hxok
    have HSZ := Lib.hid hlt
    clear hi hxin hxok hlt I0
    simp only [encV]
    gi_wp2_with (first
      | (refine wpListIn_store_idv (fun _ => trivial) rfl _ _ rfl W'.heap.size x.2 rfl rfl HXO.out 24 _ (Blk.newAt _ _ rfl rfl) rfl ?_; intro W5 hS5 hz5 hb5 _ _))
    have hbel : Below W'.heap.size W' W5 := ((Below.refl _ W').alloc (Nat.le_refl _) _).trans hb5
    have hi := HI.out
    exact hK _ _ (keepsFrom_of_below hbel) (.of_below hbel) ⟨hi.1, hi.2.keep hbel (by have := HSZ.out; omega) (by have := HSZ.out; have := HLT0.out; omega)⟩ ⟨W'.heap.size, by have := HSZ.out; omega, HXO.out, hS5, rfl⟩
  case body =>
    rintro l pre x a' W' hl hlt hpre hi ⟨Bx, hBx, hxo, hBk, rfl⟩
    have HI := Lib.hid hi
    have HXO := Lib.hid hxo
    have HBK := Lib.hid hBk
    have HLB := Lib.hid hlt
    have C0 : Hid (B < W'.heap.size ∧ W'.cell? ⟨B, 0, none⟩ = some (.int .i64 (NN : Int))) := Lib.hid ⟨hi.2.inv.1.ltB, hi.2.inv.1.cell0⟩
    have C3 : Hid (W.heap.size < W'.heap.size ∧ W'.cell? ⟨W.heap.size, 0, none⟩ = some (.pointer (some ⟨B, 0, none⟩))) := Lib.hid ⟨hi.2.k3.lt, by rw [hi.2.k3.cell]; rfl⟩
    have C4 : Hid (W.heap.size + 1 < W'.heap.size ∧ W'.cell? ⟨W.heap.size + 1, 0, none⟩ = some (.int .i64 r)) := Lib.hid ⟨hi.2.k4.lt, by rw [hi.2.k4.cell]; rfl⟩
    have C5 : Hid (W.heap.size + 1 + 1 < W'.heap.size ∧ W'.cell? ⟨W.heap.size + 1 + 1, 0, none⟩ = some (.int .i64 k)) := Lib.hid ⟨hi.2.k5.lt, by rw [hi.2.k5.cell]; rfl⟩
    have HFO : Hid (∀ W'', Below W'.heap.size W' W'' → Calls Try.prog 26 #[.pointer (some ⟨B, 0, none⟩), .int .i64 r, .int .i64 k, idv x.2] W'' fun e w' => e = .returned (.int .i64 (forN NN V r k x.2 : Int)) ∧ Below W''.heap.size W'' w') := Lib.hid fun W'' hb => forV_any (HI.out.2.inv.1.below hb) r k x.2 HW.out.1 HW.out.2 HXO.out hN
    obtain ⟨fo, hfo⟩ : ∃ fo, (forN NN V r k x.2 : Int) = fo := ⟨_, rfl⟩
    obtain ⟨ne, hne⟩ : ∃ ne, need (NN : Int) = ne := ⟨_, rfl⟩
    have HNE := Lib.hid fun W => need_any (NN : Int) W
    rw [hfo] at HFO
    rw [hne] at HNE
    have HFN := Lib.hid (And.intro hfo hne)
    have hbX : Below W'.heap.size W' W'.drew := (Below.refl _ _).drew
    clear hi hxo hBk hpre I0 hlt hfo hne
    gi_wp2
    by_cases hd : ne ≤ fo
    · have hd' : decide (ne ≤ fo) = true := decide_eq_true hd
      refine region_round (S := fun W'' => Below W'.heap.size W' W'') (by kernel_rfl) (fun ⟨_, _, h⟩ => h) (by kernel_rfl) ?_ (fun hHeld => ?_)
      · exact hbX
      refine tkH (v := (.pointer (some ⟨B, 0, none⟩))) 0 ⟨some 16, _, _, _, _, _⟩ rfl (yields_one (by rfl) 28 _ rfl ⟨W.heap.size, 0, none⟩ rfl _ _ (fun _ hS => (hS.cell (p := ⟨W.heap.size, 0, none⟩) C3.out.1).trans C3.out.2) Try.underlying28 rfl) ?_
      try simp only [Act.put, nz1, nz2, nz3]
      refine tkH (v := (.int .i64 r)) 1 ⟨some 17, _, _, _, _, _⟩ rfl (yields_one (by rfl) 3 _ rfl ⟨W.heap.size + 1, 0, none⟩ rfl _ _ (fun _ hS => (hS.cell (p := ⟨W.heap.size + 1, 0, none⟩) C4.out.1).trans C4.out.2) Try.underlying3 rfl) ?_
      try simp only [Act.put, nz1, nz2, nz3]
      refine tkH (v := (.int .i64 k)) 2 ⟨some 18, _, _, _, _, _⟩ rfl (yields_one (by rfl) 3 _ rfl ⟨W.heap.size + 1 + 1, 0, none⟩ rfl _ _ (fun _ hS => (hS.cell (p := ⟨W.heap.size + 1 + 1, 0, none⟩) C5.out.1).trans C5.out.2) Try.underlying3 rfl) ?_
      try simp only [Act.put, nz1, nz2, nz3]
      refine tkH (v := (idv x.2)) 3 ⟨some 19, _, _, _, _, _⟩ rfl (yields_idv (by rfl) _ rfl Bx rfl 24 x.2 HXO.out (fun _ hS => HBK.out.below hS HBK.out.lt)) ?_
      try simp only [Act.put, nz1, nz2, nz3]
      refine tkH (v := (.pointer (some ⟨B, 0, none⟩))) 5 ⟨some 21, _, _, _, _, _⟩ rfl (yields_one (by rfl) 28 _ rfl ⟨W.heap.size, 0, none⟩ rfl _ _ (fun _ hS => (hS.cell (p := ⟨W.heap.size, 0, none⟩) C3.out.1).trans C3.out.2) Try.underlying28 rfl) ?_
      try simp only [Act.put, nz1, nz2, nz3]
      refine tkH (v := ?_) 6 ⟨some 22, _, _, _, _, _⟩ rfl (Or.inl ⟨by rfl, ?_⟩) ?_
      rotate_left
      · intro w hSw; (try dsimp only at hSw); go_simp; try (with_reducible rfl)
      try simp only [Act.put, nz1, nz2, nz3]
      refine tkH (v := ?_) 7 ⟨some 23, _, _, _, _, _⟩ rfl (Or.inl ⟨by rfl, ?_⟩) ?_
      rotate_left
      · intro w hSw; (try dsimp only at hSw); go_simp; try (with_reducible rfl)
      try simp only [Act.put, nz1, nz2, nz3]
      refine tkH (v := (.int .i64 (NN : Int))) 8 ⟨some 24, _, _, _, _, _⟩ rfl (yields_one (by rfl) 3 _ rfl ⟨B, 0, none⟩ rfl _ _ (fun _ hS => (hS.cell (p := ⟨B, 0, none⟩) C0.out.1).trans C0.out.2) Try.underlying3 rfl) ?_
      try simp only [Act.put, nz1, nz2, nz3]
      refine wpAnyH_ready (rs := [4]) (by kernel_rfl) (by simp) ?_
      refine (AllReadyH.cons (o := ⟨some 20, _, _, _, _, _⟩) rfl (fun K hK => ?_) AllReadyH.nil)
      (try rw [if_pos (by rfl)])
      go_simp
      refine (HFO.out _ hbX).mono ?_
      rintro e W6 ⟨rfl, hbQ⟩
      replace hbX := hbX.trans (hbQ.mono hbX.size)
      clear hbQ
      try dsimp only
      refine hK.out _ _ (hbX) (fun hHeld => ?_)
      clear hK K
      try simp only [Act.put, nz1, nz2, nz3]
      refine wpAnyH_ready (rs := [9]) (by kernel_rfl) (by simp) ?_
      refine (AllReadyH.cons (o := ⟨some 25, _, _, _, _, _⟩) rfl (fun K hK => ?_) AllReadyH.nil)
      (try rw [if_pos (by rfl)])
      go_simp
      refine (HNE.out _).mono ?_
      rintro e W7 ⟨rfl, h7⟩
      obtain rfl := h7.symm
      try dsimp only
      refine hK.out _ _ (hbX) (fun hHeld => ?_)
      clear hK K
      try simp only [Act.put, nz1, nz2, nz3]
      refine tkH (v := ?_) 10 ⟨some 26, _, _, _, _, _⟩ rfl (Or.inl ⟨by rfl, ?_⟩) ?_
      rotate_left
      · intro w hSw; (try dsimp only at hSw); go_simp; try (with_reducible rfl)
      try simp only [Act.put, nz1, nz2, nz3]
      refine wpAnyH_done (by kernel_rfl) ?_ _
      have HBX := Lib.hid hbX
      have HI6 := Lib.hid (HI.out.2.keep hbX (by have := HLB.out; omega) (by have := HLB.out; have := HLT0.out; omega))
      obtain ⟨o6, hk6, ho6⟩ := HI6.out.k6
      obtain ⟨v7, hk7⟩ := HI6.out.k7
      have HK6 := Lib.hid hk6
      have HK7 := Lib.hid hk7
      have HLD := Lib.hid (HBK.out.below hbX HBK.out.lt)
      clear hbX hk6 hk7
      gi_wp2_with (first
        | (refine wpListIn_load_idv (fun _ => trivial) rfl _ rfl Bx x.2 rfl HXO.out 24 HLD.out ?_)
        | (refine wpListIn_store_idv (fun _ => trivial) rfl _ _ rfl (W.heap.size + 1 + 1 + 1) x.2 rfl rfl HXO.out 24 o6 HK6.out ho6 ?_; intro W7 hS7 hz7 hb7 hkp7 hq7; have HQ := Lib.hid (And.intro hS7 (And.intro hz7 (And.intro hb7 hq7))); have k7' : Blk W7 (W.heap.size + 1 + 1 + 1 + 1) 4 #[v7] := (hq7 _ (by omega)).trans HK7.out; have HK7' := Lib.hid k7'; have c7 : W7.cell? ⟨W.heap.size + 1 + 1 + 1 + 1, 0, none⟩ = some v7 := (by rw [k7'.cell]; rfl); have f7 := k7'.frozen 0; clear hS7 hz7 hb7 hkp7 hq7 k7'))
      obtain ⟨hS7, hz7, hb7, hq7⟩ := HQ.out
      have hst := HK7'.out.store 0 (.bool true)
      refine ⟨keepsFrom_trans (keepsFrom_of_below HBX.out) (keepsFrom_trans (keepsFrom_row HK6.out (by omega) hq7) (keepsFrom_row HK7'.out (by simp [World.setCell]) (fun b hb => Below.heap_setCell _ _ _ _ hb))), rfl, pre, x, rfl, HI.out.1, by rw [HFN.out.1, HFN.out.2]; exact hd', HXO.out, hS7.far (by simp) _, hst.same rfl, ?_⟩
      exact ((HI.out.2.below.trans (HBX.out.mono HI.out.2.below.size)).trans (hb7.mono (by omega))).setCell (by simp; omega) _
    · have hd' : decide (ne ≤ fo) = false := decide_eq_false hd
      refine region_round (S := fun W'' => Below W'.heap.size W' W'') (by kernel_rfl) (fun ⟨_, _, h⟩ => h) (by kernel_rfl) ?_ (fun hHeld => ?_)
      · exact hbX
      refine tkH (v := (.pointer (some ⟨B, 0, none⟩))) 0 ⟨some 16, _, _, _, _, _⟩ rfl (yields_one (by rfl) 28 _ rfl ⟨W.heap.size, 0, none⟩ rfl _ _ (fun _ hS => (hS.cell (p := ⟨W.heap.size, 0, none⟩) C3.out.1).trans C3.out.2) Try.underlying28 rfl) ?_
      try simp only [Act.put, nz1, nz2, nz3]
      refine tkH (v := (.int .i64 r)) 1 ⟨some 17, _, _, _, _, _⟩ rfl (yields_one (by rfl) 3 _ rfl ⟨W.heap.size + 1, 0, none⟩ rfl _ _ (fun _ hS => (hS.cell (p := ⟨W.heap.size + 1, 0, none⟩) C4.out.1).trans C4.out.2) Try.underlying3 rfl) ?_
      try simp only [Act.put, nz1, nz2, nz3]
      refine tkH (v := (.int .i64 k)) 2 ⟨some 18, _, _, _, _, _⟩ rfl (yields_one (by rfl) 3 _ rfl ⟨W.heap.size + 1 + 1, 0, none⟩ rfl _ _ (fun _ hS => (hS.cell (p := ⟨W.heap.size + 1 + 1, 0, none⟩) C5.out.1).trans C5.out.2) Try.underlying3 rfl) ?_
      try simp only [Act.put, nz1, nz2, nz3]
      refine tkH (v := (idv x.2)) 3 ⟨some 19, _, _, _, _, _⟩ rfl (yields_idv (by rfl) _ rfl Bx rfl 24 x.2 HXO.out (fun _ hS => HBK.out.below hS HBK.out.lt)) ?_
      try simp only [Act.put, nz1, nz2, nz3]
      refine tkH (v := (.pointer (some ⟨B, 0, none⟩))) 5 ⟨some 21, _, _, _, _, _⟩ rfl (yields_one (by rfl) 28 _ rfl ⟨W.heap.size, 0, none⟩ rfl _ _ (fun _ hS => (hS.cell (p := ⟨W.heap.size, 0, none⟩) C3.out.1).trans C3.out.2) Try.underlying28 rfl) ?_
      try simp only [Act.put, nz1, nz2, nz3]
      refine tkH (v := ?_) 6 ⟨some 22, _, _, _, _, _⟩ rfl (Or.inl ⟨by rfl, ?_⟩) ?_
      rotate_left
      · intro w hSw; (try dsimp only at hSw); go_simp; try (with_reducible rfl)
      try simp only [Act.put, nz1, nz2, nz3]
      refine tkH (v := ?_) 7 ⟨some 23, _, _, _, _, _⟩ rfl (Or.inl ⟨by rfl, ?_⟩) ?_
      rotate_left
      · intro w hSw; (try dsimp only at hSw); go_simp; try (with_reducible rfl)
      try simp only [Act.put, nz1, nz2, nz3]
      refine tkH (v := (.int .i64 (NN : Int))) 8 ⟨some 24, _, _, _, _, _⟩ rfl (yields_one (by rfl) 3 _ rfl ⟨B, 0, none⟩ rfl _ _ (fun _ hS => (hS.cell (p := ⟨B, 0, none⟩) C0.out.1).trans C0.out.2) Try.underlying3 rfl) ?_
      try simp only [Act.put, nz1, nz2, nz3]
      refine wpAnyH_ready (rs := [4]) (by kernel_rfl) (by simp) ?_
      refine (AllReadyH.cons (o := ⟨some 20, _, _, _, _, _⟩) rfl (fun K hK => ?_) AllReadyH.nil)
      (try rw [if_pos (by rfl)])
      go_simp
      refine (HFO.out _ hbX).mono ?_
      rintro e W6 ⟨rfl, hbQ⟩
      replace hbX := hbX.trans (hbQ.mono hbX.size)
      clear hbQ
      try dsimp only
      refine hK.out _ _ (hbX) (fun hHeld => ?_)
      clear hK K
      try simp only [Act.put, nz1, nz2, nz3]
      refine wpAnyH_ready (rs := [9]) (by kernel_rfl) (by simp) ?_
      refine (AllReadyH.cons (o := ⟨some 25, _, _, _, _, _⟩) rfl (fun K hK => ?_) AllReadyH.nil)
      (try rw [if_pos (by rfl)])
      go_simp
      refine (HNE.out _).mono ?_
      rintro e W7 ⟨rfl, h7⟩
      obtain rfl := h7.symm
      try dsimp only
      refine hK.out _ _ (hbX) (fun hHeld => ?_)
      clear hK K
      try simp only [Act.put, nz1, nz2, nz3]
      refine tkH (v := ?_) 10 ⟨some 26, _, _, _, _, _⟩ rfl (Or.inl ⟨by rfl, ?_⟩) ?_
      rotate_left
      · intro w hSw; (try dsimp only at hSw); go_simp; try (with_reducible rfl)
      try simp only [Act.put, nz1, nz2, nz3]
      refine wpAnyH_done (by kernel_rfl) ?_ _
      have HBX := Lib.hid hbX
      clear hbX
      gi_wp2
      refine ⟨keepsFrom_of_below HBX.out, Keep.of_below HBX.out, ?_, HI.out.2.keep HBX.out (by have := HLB.out; omega) (by have := HLB.out; have := HLT0.out; omega)⟩
      intro p hp
      rcases List.mem_append.1 hp with hp | hp
      · exact HI.out.1 p hp
      · rw [List.mem_singleton] at hp
        rw [hp, HFN.out.1, HFN.out.2]
        exact hd'
  case done =>
    rintro D W' hD ⟨hun, hsi⟩ hK
    have HSO : Hid (sureO NN V r k = none) := Lib.hid (by
      unfold sureO
      rw [List.find?_eq_none.2 (fun p hp => by rw [hun p hp]; simp)]
      rfl)
    obtain ⟨o6, hk6, ho6⟩ := hsi.k6
    obtain ⟨v7, hk7⟩ := hsi.k7
    have HK6 := Lib.hid hk6
    have HK7 := Lib.hid hk7
    have HB := Lib.hid hsi.below
    have HKD := Lib.hid hK
    have HD := Lib.hid hD
    clear hun hsi hk6 hk7 hK hD I0
    gi_wp2
    go_wp2_with (first
      | (guard_target = wpList _ _ _ (Oper.mk _ (.build 24 _) _ _ _ _ :: _) _ _; refine wpList_build_zero rfl rfl ?_)
      | (guard_target = wpList _ _ _ (Oper.mk _ (.store 24 _ _) _ _ _ _ :: _) _ _; refine wpList_store_idv rfl _ _ rfl (W.heap.size + 1 + 1 + 1) zeroId rfl rfl zeroId_ok 24 o6 HK6.out ho6 ?_; intro W7 hS7 hz7 hb7 hq7; have HQ := Lib.hid (And.intro hS7 (And.intro hz7 (And.intro hb7 hq7))); have k7' : Blk W7 (W.heap.size + 1 + 1 + 1 + 1) 4 #[v7] := (hq7 _ (by omega)).trans HK7.out; have HK7' := Lib.hid k7'; have c7 : W7.cell? ⟨W.heap.size + 1 + 1 + 1 + 1, 0, none⟩ = some v7 := (by rw [k7'.cell]; rfl); have f7 := k7'.frozen 0; clear hS7 hz7 hb7 hq7 k7'))
    obtain ⟨hS7, hz7, hb7, hq7⟩ := HQ.out
    have hst := (HK7'.out.store 0 (.bool false)).same (cs' := #[.bool false]) rfl
    have hs6 := hS7.far (p := ⟨W.heap.size + 1 + 1 + 1 + 1, 0, none⟩) (by simp) (.bool false)
    have hDl : D < W'.heap.size := (Array.getElem?_eq_some_iff.1 HKD.out).1
    have hD8 : (W7.setCell ⟨W.heap.size + 1 + 1 + 1 + 1, 0, none⟩ (.bool false)).heap[D]? = some (.deferred (some [])) := (Below.heap_setCell _ _ _ _ (by have := HD.out; simp; omega)).trans ((hq7 D (by have := HD.out; omega)).trans HKD.out)
    have hb8 := ((HB.out.trans (hb7.mono (by omega))).setCell (p := ⟨W.heap.size + 1 + 1 + 1 + 1, 0, none⟩) (by simp; omega) (.bool false))
    rw [HSO.out]
    refine ⟨by simp, .inl ⟨_, _, rfl, run_takeDeferred hD8, ?_⟩⟩
    exact ⟨_, results_cells (p := 6) (q := 7) rfl _ _ ⟨W.heap.size + 1 + 1 + 1, 0, none⟩ ⟨W.heap.size + 1 + 1 + 1 + 1, 0, none⟩ _ _ rfl rfl (run_loadVar_idv zeroId_ok (hs6.putObj _ hD8 rfl)) (loadVar_one Try.underlying4 rfl (by rw [(hst.putObj _ hD8 rfl).cell]; rfl)), rfl, below_putObj hb8 _ (by have := HD.out; omega)⟩
  case stop =>
    rintro D c pre W' hD hpre hne ⟨rfl, pre', x, rfl, hun, hy, hxo, hk6, hk7, hb⟩ hK
    have HSO : sureO NN V r k = some x.2 := by
      unfold sureO
      obtain ⟨m, hm⟩ := hpre
      rw [← hm, find_first _ pre' x (fun a ha => hun a ha) hy m]
      rfl
    have HSX := Lib.hid HSO
    clear HSO
    gi_wp2
    rw [HSX.out]
    refine ⟨by simp, .inl ⟨_, _, rfl, run_takeDeferred hK, ?_⟩⟩
    exact ⟨_, results_cells (p := 6) (q := 7) rfl _ _ ⟨W.heap.size + 1 + 1 + 1, 0, none⟩ ⟨W.heap.size + 1 + 1 + 1 + 1, 0, none⟩ _ _ rfl rfl (run_loadVar_idv hxo (hk6.putObj _ hK rfl)) (loadVar_one Try.underlying4 rfl (by rw [(hk7.putObj _ hK rfl).cell]; rfl)), rfl, below_putObj hb _ (by omega)⟩
end Go.Proofs.Ytbgojlcciealiaa
