/-
  The iterator over the fields of which bytes are made: for all bytes, in whatever memory, whatever the loop's body does without writing what the iterator reads: the fields come in order; one that isn't there whole is the last one.
-/
import Derived.Test.YtkbdkeclbokhdaaDoorQ39
import Derived.Shelf.Abstract
import Derived.Shelf.RegionOpen
import Derived.TacticsInMore
import Derived.LoopNIn
import Derived.LoopIn
namespace Go.Proofs.YtkbdkeclbokhdaaDoor
open Go Go.RowKit PackMath
attribute [local go_sem] Oper.semAt_some

/-- What the iterator hands out: tags and runs; 'none' where one isn't there whole. -/
def fsteps (s : List UInt8) : List (Nat × Option (List UInt8)) := match s with
  | [] => []
  | t :: r => match _e : take3 r with
    | none => [(t.toNat, none)]
    | some (x, r') => (t.toNat, some x) :: fsteps r'
termination_by s.length
decreasing_by
  have := take3_short _e
  simp; omega
theorem fsteps_nil : fsteps [] = [] := by rw [fsteps]
theorem fsteps_none {t : UInt8} {r : List UInt8} (e : take3 r = none) : fsteps (t :: r) = [(t.toNat, none)] := by
  rw [fsteps]
  split
  · rfl
  · rename_i x r' e'
    rw [e] at e'; cases e'
theorem fsteps_some {t : UInt8} {r x r' : List UInt8} (e : take3 r = some (x, r')) : fsteps (t :: r) = (t.toNat, some x) :: fsteps r' := by
  rw [fsteps]
  split
  · rename_i e'
    rw [e] at e'; cases e'
  · rename_i x' r'' e'
    rw [e] at e'
    injection e' with e'
    injection e' with h1 h2
    rw [h1, h2]
def EncD (x : Nat × Option (List UInt8)) (o : Nat → Prop) (W : World) (vs : Array Value) : Prop :=
  match x.2 with
  | none => vs = #[.agg #[.int .i64 (x.1 : Int), .slice none 0 0, .bool false]]
  | some bs => ∃ A c, vs = #[.agg #[.int .i64 (x.1 : Int), .slice A bs.length c, .bool true]] ∧ RdB W (fun b => b < W.heap.size ∧ ¬ o b) (.slice A bs.length c) bs
/-- What holds between two fields. -/
def RunD (B D : Nat) (bs : List UInt8) (W0 : World) (J : List (Nat × Option (List UInt8)) → (Nat → Prop) → World → Prop) (wr : World) : Prop :=
  ∃ (s : List UInt8) (pre : List (Nat × Option (List UInt8))) (o : Nat → Prop) (A : Option Addr) (c : Nat), Blk wr B 42 #[.slice A s.length c] ∧ RdB wr (fun b => b < D) (.slice A s.length c) s ∧ pre ++ fsteps s = fsteps bs ∧ J pre o wr ∧ ¬ o B ∧ (∀ b, o b → D ≤ b) ∧ W0.heap.size ≤ wr.heap.size
/-- The worlds of one round: the field's variable is new, the bytes' variable turns. -/
theorem fin_facts {wr w1 : World} {B : Nat} {old x1 x2 T wh : Value} (hB : Blk wr B 42 #[old]) (hb : Below (wr.alloc (.cells #[T, .slice none 0 0, .bool false] 122)).heap.size (wr.alloc (.cells #[T, .slice none 0 0, .bool false] 122)) w1) :
    (w1.cell? ⟨wr.heap.size, 1, none⟩ = some (.slice none 0 0) ∧ w1.frozen? ⟨wr.heap.size, 1, none⟩ = false) ∧
    ((w1.setCell ⟨wr.heap.size, 1, none⟩ x1).cell? ⟨B, 0, none⟩ = some old ∧ (w1.setCell ⟨wr.heap.size, 1, none⟩ x1).frozen? ⟨B, 0, none⟩ = false) ∧
    (((w1.setCell ⟨wr.heap.size, 1, none⟩ x1).setCell ⟨B, 0, none⟩ x2).cell? ⟨wr.heap.size, 2, none⟩ = some (.bool false) ∧ ((w1.setCell ⟨wr.heap.size, 1, none⟩ x1).setCell ⟨B, 0, none⟩ x2).frozen? ⟨wr.heap.size, 2, none⟩ = false) ∧
    Blk (((w1.setCell ⟨wr.heap.size, 1, none⟩ x1).setCell ⟨B, 0, none⟩ x2).setCell ⟨wr.heap.size, 2, none⟩ wh) wr.heap.size 122 #[T, x1, wh] ∧
    Blk (((w1.setCell ⟨wr.heap.size, 1, none⟩ x1).setCell ⟨B, 0, none⟩ x2).setCell ⟨wr.heap.size, 2, none⟩ wh) B 42 #[x2] ∧
    (∀ (D : Nat) (o : Nat → Prop), D ≤ wr.heap.size → (∀ b, o b → b < wr.heap.size ∧ b ≠ B) → StayN (fun b => b = B) D o wr (((w1.setCell ⟨wr.heap.size, 1, none⟩ x1).setCell ⟨B, 0, none⟩ x2).setCell ⟨wr.heap.size, 2, none⟩ wh)) ∧
    (∀ (a : Addr) (x : Value), a.block < wr.heap.size → a.block ≠ B → wr.cell? a = some x → (((w1.setCell ⟨wr.heap.size, 1, none⟩ x1).setCell ⟨B, 0, none⟩ x2).setCell ⟨wr.heap.size, 2, none⟩ wh).cell? a = some x) ∧
    (((w1.setCell ⟨wr.heap.size, 1, none⟩ x1).setCell ⟨B, 0, none⟩ x2).setCell ⟨wr.heap.size, 2, none⟩ wh).heap.size = w1.heap.size ∧ wr.heap.size + 1 ≤ w1.heap.size := by
  have hs : wr.heap.size + 1 ≤ w1.heap.size := by have := hb.size; simpa using this
  have hlt := hB.lt
  have k1 : Blk w1 wr.heap.size 122 #[T, .slice none 0 0, .bool false] := (Blk.new wr _ _).below hb (by simp)
  have kB : Blk w1 B 42 #[old] := (hB.alloc _).below hb (by simp; omega)
  have hne : B ≠ wr.heap.size := by omega
  have kB2 := kB.far (p := ⟨wr.heap.size, 1, none⟩) hne x1
  have k2 := (k1.store 1 x1).far (p := ⟨B, 0, none⟩) (by simp; omega) x2
  have k3 := k2.store 2 wh
  have kB3 := (kB2.store 0 x2).far (p := ⟨wr.heap.size, 2, none⟩) hne wh
  refine ⟨⟨by rw [k1.cell]; rfl, k1.frozen 1⟩, ⟨by rw [kB2.cell]; rfl, kB2.frozen 0⟩, ⟨by rw [k2.cell]; rfl, k2.frozen 2⟩, k3.same rfl, kB3.same rfl, fun D o hD ho => ?_, fun a x ha hne' h => ?_, by simp [World.setCell], hs⟩
  · have st : ∀ (W : World) (p : Addr) (v : Value), (D ≤ p.block ∨ p.block = B) → ¬ o p.block → StayN (fun b => b = B) D o W (W.setCell p v) := fun W p v h1 h2 => StayN.setCell W p v h1 h2
    have s0 : StayN (fun b => b = B) D o wr (wr.alloc (.cells #[T, .slice none 0 0, .bool false] 122)) := StayN.of_below ((Below.refl _ _).alloc (Nat.le_refl _) _)
    have s1 : StayN (fun b => b = B) D o (wr.alloc (.cells #[T, .slice none 0 0, .bool false] 122)) w1 := StayN.of_below hb
    have nh : ¬ o wr.heap.size := fun h => by have := (ho _ h).1; omega
    have nB : ¬ o B := fun h => (ho _ h).2 rfl
    exact (s0.trans s1).trans (((st _ _ _ (.inl hD) nh).trans (st _ _ _ (.inr rfl) nB)).trans (st _ _ _ (.inl hD) nh))
  · have n1 : a.block ≠ wr.heap.size := by omega
    refine (World.cell?_of_block (Below.heap_setCell _ ⟨wr.heap.size, 2, none⟩ _ _ n1)).trans ((World.cell?_of_block (Below.heap_setCell _ ⟨B, 0, none⟩ _ _ hne')).trans ((World.cell?_of_block (Below.heap_setCell _ ⟨wr.heap.size, 1, none⟩ _ _ n1)).trans ?_))
    exact (hb.cell (p := a) (by simp; omega)).trans ((World.cell?_of_block (Below.heap_alloc _ _ _ ha)).trans h)
set_option maxRecDepth 100000 in
set_option maxHeartbeats 2000000 in
theorem fin_seq (B D : Nat) (A : Option Addr) (c : Nat) (bs : List UInt8) (w : World) (hD : D ≤ B) (hbx : Blk w B 42 #[.slice A bs.length c]) (hr : RdB w (fun b => b < D) (.slice A bs.length c) bs) :
    SeqN Tryd.prog 74 #[.pointer (some ⟨B, 0, none⟩)] EncD (fun b => b = B) (fun o => ¬ o B ∧ ∀ b, o b → D ≤ b) (fsteps bs) w := by
  intro y J Jx o W hW hJ hJx hY h0 hPre
  obtain ⟨hoB, hoD⟩ := hPre
  have hxl := hbx.lt
  have H0 : Hid (RunD B D bs W J W) := Lib.hid ⟨bs, [], o, A, c, hbx.below hW hxl, hr.kept (fun a x ha h => (hW.cell (p := a) (Nat.lt_of_lt_of_le ha (Nat.le_trans hD (Nat.le_of_lt hxl)))).trans h), rfl, h0, hoB, hoD, Nat.le_refl _⟩
  have hBW : Hid (B < W.heap.size) := Lib.hid (Nat.lt_of_lt_of_le hxl hW.size)
  have HD := Lib.hid hD
  have HJ := Lib.hid hJ
  have HJx := Lib.hid hJx
  have HY := Lib.hid hY
  clear hW hJ hJx hY h0 hoB hoD hbx hr hxl hD
  refine callsIn_of_wp Tryd.func74 rfl trivial ?_ rfl
  simp only [Tryd.ntmps74, List.size_toArray, List.length_cons, List.length_nil, Nat.reduceAdd, Nat.reduceSub, Array.replicate_succ, Array.replicate_zero, List.push_toArray, List.append_toArray, List.nil_append, List.cons_append]
  gi_wp2
  gi_loopw [3] (fun _ wr => RunD B D bs W J wr) (fun _ wr => lenAt B wr)
  case atStart => exact H0.out
  case round =>
    obtain ⟨s, pre, o', A', c', hB, hrd, hpre, hJ, hoB, hoD, hsz⟩ := hrel
    have hcell : wr.cell? ⟨B, 0, none⟩ = some (.slice A' s.length c') := by rw [hB.cell]; rfl
    have hlen : lenAt B wr = s.length := by unfold lenAt; rw [hcell]
    have HLEN := Lib.hid hlen
    have HB := Lib.hid hB
    have HJ' := Lib.hid hJ
    have HRD := Lib.hid hrd
    have HPRE := Lib.hid hpre
    have HOB := Lib.hid hoB
    have HOD := Lib.hid hoD
    have HSZ := Lib.hid hsz
    clear hB hJ hrd hpre hoB hoD hsz hlen
    cases s with
    | nil =>
      have HFIN : Hid (pre = fsteps bs) := Lib.hid (by have := HPRE.out; rw [fsteps_nil, List.append_nil] at this; exact this)
      gi_wp2
      go_end0
      exact ⟨⟨_, rfl⟩, .inl ⟨o', by rw [← HFIN.out]; exact HJ'.out⟩⟩
    | cons t r =>
      obtain ⟨n, hn⟩ : ∃ n, r.length = n := ⟨_, rfl⟩
      obtain ⟨ad, hA, hc0⟩ := HRD.out.getc (j := 0) (by simp)
      subst hA
      have hc1 : wr.cell? ad = some (.int .u8 (t.toNat : Int)) := by have := hc0; rw [show ad.add 0 = ad by simp [Addr.add]] at this; exact this
      have hn0 : (0 : Int) < ((n + 1 : Nat) : Int) := by omega
      have htl := t.toNat_lt
      have hwr : wrap64 (t.toNat : Int) = (t.toNat : Int) := by unfold wrap64; omega
      rw [List.length_cons, hn] at hcell
      have hr1 := HRD.out.cut (k := 1) (by simp)
      rw [show (t :: r).drop 1 = r from rfl, List.length_cons, hn, Nat.add_sub_cancel] at hr1
      have hs1 : ∀ w', (Instr.sliceAt 42 (.slice (some ad) (n + 1) c') (some (.int .i64 1)) none none).run Tryd.prog w' = .ok (.slice (cutA (some ad) c' 1) n (c' - 1)) w' := fun w' =>
        run_slice_from (P := Tryd.prog) 42 5 Tryd.underlying42 (by kernel_rfl) (some ad) (n + 1) c' 1 (by omega) w'
      obtain ⟨A3, hA3⟩ : ∃ A3, cutA (some ad) c' 1 = A3 := ⟨_, rfl⟩
      rw [hA3] at hs1 hr1
      obtain ⟨c3, hc3⟩ : ∃ c3, c' - 1 = c3 := ⟨_, rfl⟩
      rw [hc3] at hs1 hr1
      have HDL : Hid (∀ b, b < D → b < wr.heap.size) := Lib.hid fun b hb => by have := HD.out; have := hBW.out; have := HSZ.out; omega
      have HDB : Hid (∀ b, b < D → b ≠ B) := Lib.hid fun b hb => by have := HD.out; omega
      have HOL : Hid (∀ b, o' b → b < wr.heap.size) := Lib.hid fun b hb => HJ.out.lt HJ'.out hb
      have HBl := Lib.hid HB.out.lt
      have HR1 := Lib.hid hr1
      have HN := Lib.hid hn
      have CUT := Lib.hid (fun W' (hb : Below (wr.alloc (.cells #[.int .i64 (t.toNat : Int), .slice none 0 0, .bool false] 122)).heap.size (wr.alloc (.cells #[.int .i64 (t.toNat : Int), .slice none 0 0, .bool false] 122)) W') => cutRun_any A3 c3 r (fun b => b < D) W' (by rw [hn]; exact hr1.kept fun a x ha h => (hb.cell (p := a) (by have := HDL.out _ ha; simp; omega)).trans ((World.cell?_of_block (Below.heap_alloc _ _ _ (HDL.out _ ha))).trans h)))
      rw [hn] at CUT
      have hcA : (wr.alloc (.cells #[.int .i64 (t.toNat : Int), .slice none 0 0, .bool false] 122)).cell? ⟨B, 0, none⟩ = some (.slice (some ad) (n + 1) c') := (World.cell?_of_block (Below.heap_alloc _ _ _ HB.out.lt)).trans hcell
      have hCO : Hid (∀ e, CutOut (wr.alloc (.cells #[.int .i64 (t.toNat : Int), .slice none 0 0, .bool false] 122)) (fun b => b < D) r e → CutOut wr (fun b => b < D) r e) := Lib.hid fun e h => by
        unfold CutOut at h ⊢
        split at h
        · exact h
        · obtain ⟨A1, c1, A2, c2, he, h1, h2⟩ := h
          have bk : ∀ (a : Addr) (x : Value), a.block < D → (wr.alloc (.cells #[.int .i64 (t.toNat : Int), .slice none 0 0, .bool false] 122)).cell? a = some x → wr.cell? a = some x := fun a x ha h => (World.cell?_of_block (Below.heap_alloc _ _ _ (HDL.out _ ha))).symm.trans h
          exact ⟨A1, c1, A2, c2, he, h1.kept bk, h2.kept bk⟩
      rw [List.length_cons, hn] at HB
      clear hn hc0 hr1 hA3 hc3 htl
      cases e3 : take3 r with
      | none =>
        have hst := fsteps_none (t := t) e3
        have HPX : Hid (pre ++ [(t.toNat, none)] = fsteps bs) := Lib.hid (by rw [← hst]; exact HPRE.out)
        have HPF : Hid ((pre ++ [(t.toNat, none)]) <+: fsteps bs) := Lib.hid (by rw [HPX.out]; exact List.prefix_refl _)
        have CUT2 : Hid (∀ e, CutOut (wr.alloc (.cells #[.int .i64 (t.toNat : Int), .slice none 0 0, .bool false] 122)) (fun b => b < D) r e → e = .returned (.tuple #[.slice none 0 0, .slice none 0 0, .bool false])) := Lib.hid fun e h => by have h := hCO.out e h; unfold CutOut at h; rw [e3] at h; exact h
        clear hst e3
        gi_wp2_with (first
          | (refine ⟨trivial, rfl, ?_⟩; gi_at_call 75; refine (callsIn_wide.2 (CUT.out _ (Below.refl _ _))).mono ?_; rintro e w1 ⟨hout, hb1⟩; obtain rfl := CUT2.out e hout; clear hout; obtain ⟨⟨q1, q1'⟩, ⟨q2, q2'⟩, ⟨q3, q3'⟩, q4, q5, q6, q7, q8, q9⟩ := fin_facts (x1 := (.slice none 0 0)) (x2 := (.slice none 0 0)) (T := .int .i64 (t.toNat : Int)) (wh := (.bool false)) HB.out hb1; have HQ := Lib.hid (And.intro q4 (And.intro q5 (And.intro q6 (And.intro q7 (And.intro q8 q9))))); clear q5 q6 q7 q8 q9 hb1)
          | (refine wpListIn_load_arr (fun _ => trivial) rfl 122 _ rfl wr.heap.size rfl 122 _ _ q4 Tryd.underlying122 rfl (by kernel_rfl) ?_; obtain ⟨_, q5, q6, q7, q8, q9⟩ := HQ.out; obtain ⟨fn, tm, assign, bd, hy, hR1⟩ := HY.out pre (t.toNat, none) #[.agg #[.int .i64 (t.toNat : Int), .slice none 0 0, .bool false]] o' _ HPF.out (HJ.out.stay _ _ _ _ HJ'.out (q6 W.heap.size o' HSZ.out fun b hb => ⟨HOL.out b hb, fun e => HOB.out (e ▸ hb)⟩)) (by have := HSZ.out; omega) rfl; clear q5 q6 q7 q8 q9)
          | (refine ⟨rfl, ?_⟩; refine hR1.mono ?_; clear hR1; rintro e W' (H | H) <;> first | (obtain ⟨rfl, ⟨o2, hJ2, hgo⟩, hk2⟩ := H; have hF2 := q4.kept hk2 (fun h => by have := HOL.out _ h; omega); have hwh : W'.cell? ⟨wr.heap.size, 2, none⟩ = some (.bool false) := (by rw [hF2.cell]; rfl); have HK2 := Lib.hid hk2; have HJ2 := Lib.hid hJ2; have HGO := Lib.hid hgo; clear q4 hF2 hk2 hJ2 hgo) | (obtain ⟨rfl, o2, hJx2⟩ := H)))
        · refine bodyPost_ret (results_none rfl _ _ _) rfl ?_
          exact ⟨⟨_, rfl⟩, .inl ⟨o2, by rw [← HPX.out]; exact HJ2.out⟩⟩
        · refine bodyPost_ret (results_none rfl _ _ _) rfl ?_
          exact ⟨⟨_, rfl⟩, .inr ⟨_, o2, HPF.out, by simp, hJx2⟩⟩
      | some xr =>
        obtain ⟨x, r'⟩ := xr
        have hst := fsteps_some (t := t) e3
        have hsh := take3_short e3
        have HPX : Hid (pre ++ [(t.toNat, some x)] ++ fsteps r' = fsteps bs) := Lib.hid (by rw [List.append_assoc, List.singleton_append, ← hst]; exact HPRE.out)
        have HPF : Hid ((pre ++ [(t.toNat, some x)]) <+: fsteps bs) := Lib.hid ⟨_, HPX.out⟩
        have HSH : Hid (r'.length < r.length) := Lib.hid hsh
        have CUT2 : Hid (∀ e, CutOut (wr.alloc (.cells #[.int .i64 (t.toNat : Int), .slice none 0 0, .bool false] 122)) (fun b => b < D) r e → ∃ A1 c1 A2 c2, e = .returned (.tuple #[.slice A1 x.length c1, .slice A2 r'.length c2, .bool true]) ∧ RdB wr (fun b => b < D) (.slice A1 x.length c1) x ∧ RdB wr (fun b => b < D) (.slice A2 r'.length c2) r') := Lib.hid fun e h => by have h := hCO.out e h; unfold CutOut at h; rw [e3] at h; exact h
        obtain ⟨nx, hnx⟩ : ∃ nx, x.length = nx := ⟨_, rfl⟩
        obtain ⟨nr, hnr⟩ : ∃ nr, r'.length = nr := ⟨_, rfl⟩
        have HNX := Lib.hid hnx
        have HNR := Lib.hid hnr
        rw [hnx, hnr] at CUT2
        clear hst e3 hsh hnx hnr
        gi_wp2_with (first
          | (refine ⟨trivial, rfl, ?_⟩; gi_at_call 75; refine (callsIn_wide.2 (CUT.out _ (Below.refl _ _))).mono ?_; rintro e w1 ⟨hout, hb1⟩; obtain ⟨A1, c1, A2, c2, rfl, hrx, hrr⟩ := CUT2.out e hout; clear hout; obtain ⟨⟨q1, q1'⟩, ⟨q2, q2'⟩, ⟨q3, q3'⟩, q4, q5, q6, q7, q8, q9⟩ := fin_facts (x1 := (.slice A1 nx c1)) (x2 := (.slice A2 nr c2)) (T := .int .i64 (t.toNat : Int)) (wh := (.bool true)) HB.out hb1; have HQ := Lib.hid (And.intro q4 (And.intro q5 (And.intro q6 (And.intro q7 (And.intro q8 q9))))); clear q5 q6 q7 q8 q9 hb1)
          | (refine wpListIn_load_arr (fun _ => trivial) rfl 122 _ rfl wr.heap.size rfl 122 _ _ q4 Tryd.underlying122 rfl (by kernel_rfl) ?_; obtain ⟨_, q5, q6, q7, q8, q9⟩ := HQ.out; obtain ⟨fn, tm, assign, bd, hy, hR1⟩ := HY.out pre (t.toNat, some x) #[.agg #[.int .i64 (t.toNat : Int), .slice A1 nx c1, .bool true]] o' _ HPF.out (HJ.out.stay _ _ _ _ HJ'.out (q6 W.heap.size o' HSZ.out fun b hb => ⟨HOL.out b hb, fun e => HOB.out (e ▸ hb)⟩)) (by have := HSZ.out; omega) ⟨A1, c1, by rw [HNX.out], by rw [HNX.out]; exact (hrx.kept (W' := ((w1.setCell ⟨wr.heap.size, 1, none⟩ (.slice A1 nx c1)).setCell ⟨B, 0, none⟩ (.slice A2 nr c2)).setCell ⟨wr.heap.size, 2, none⟩ (.bool true)) fun a x ha h => q7 a x (HDL.out _ ha) (HDB.out _ ha) h).mono fun b hb => ⟨by have := HDL.out b hb; omega, fun ho => by have := HOD.out b ho; omega⟩⟩; clear q5 q6 q7 q8 q9)
          | (refine ⟨rfl, ?_⟩; refine hR1.mono ?_; clear hR1; rintro e W' (H | H) <;> first | (obtain ⟨rfl, ⟨o2, hJ2, hgo⟩, hk2⟩ := H; have hF2 := q4.kept hk2 (fun h => by have := HOL.out _ h; omega); have hwh : W'.cell? ⟨wr.heap.size, 2, none⟩ = some (.bool true) := (by rw [hF2.cell]; rfl); have HK2 := Lib.hid hk2; have HJ2 := Lib.hid hJ2; have HGO := Lib.hid hgo; clear q4 hF2 hk2 hJ2 hgo) | (obtain ⟨rfl, o2, hJx2⟩ := H)))
        · obtain ⟨_, q5, q6, q7, q8, q9⟩ := HQ.out
          have hs2 := HK2.out.size
          have hno : ¬ o2 B := fun h => (HGO.out B h).elim HOB.out fun h => by have := HBl.out; omega
          have hB2 := q5.kept HK2.out HOB.out
          have hlt : W'.cell? ⟨B, 0, none⟩ = some (.slice A2 nr c2) := by rw [hB2.cell]; rfl
          refine ⟨⟨r', pre ++ [(t.toNat, some x)], o2, A2, c2, by rw [HNR.out]; exact hB2, ?_, HPX.out, HJ2.out, hno, ?_, by have := HSZ.out; omega⟩, ?_⟩
          · rw [HNR.out]
            exact hrr.kept fun a v ha h => cell_keep HK2.out (fun ho => by have := HOD.out _ ho; omega) (q7 a v (HDL.out _ ha) (HDB.out _ ha) h)
          · intro b hb
            rcases HGO.out b hb with h | h
            · exact HOD.out b h
            · have := HD.out
              have := HBl.out
              omega
          · rw [HLEN.out]
            unfold lenAt
            rw [hlt]
            have := HSH.out
            have := HNR.out
            simp only [List.length_cons]
            omega
        · refine bodyPost_ret (results_none rfl _ _ _) rfl ?_
          exact ⟨⟨_, rfl⟩, .inr ⟨_, o2, HPF.out, by simp, hJx2⟩⟩
end Go.Proofs.YtkbdkeclbokhdaaDoor
