/-
  short's Entry: two unlike texts with one sum, or none; in whatever memory in which the tables lie. No condition.
-/
import Derived.Test.YtlnapnbccojohaaDoorShFind
import Derived.Test.YtlnapnbccojohaaDoorShRefW
import Derived.Test.YtlnapnbccojohaaDoorShLeads
namespace Go.Proofs.YtlnapnbccojohaaDoor
open Go Go.RowKit Go.Shelf TreeM

theorem own_below' {w w' : World} {B n k : Nat} {e : TypeId} {v : Value} {xs : List Value} (h : w.ownsRow B e k v n xs) (hb : Below w.heap.size w w') : w'.ownsRow B e k v n xs :=
  Turn.own (Turn.of_below hb) h (fun i hi => by have := (h.lt i hi).2; omega)
theorem sh_rd_own {w : World} {B n : Nat} {v : Value} {l : List D} (h : w.ownsRow B 23 32 v n (idCells l)) (hm : n ≤ 4398046511104) : RdI w (fun b => b < w.heap.size) v l := (own_rd h hm).mono fun _ hb => hb.2.2
theorem RdP.laterS {W W' : World} {A : Option Addr} {ps : List (List UInt8)} {B : Nat} (h : RdP W (fun b => B ≤ b ∧ b < W.heap.size) A ps) (hb : Below W.heap.size W W') : RdP W' (fun b => B ≤ b ∧ b < W'.heap.size) A ps := fun k hk => by
  obtain ⟨ad, v, e, h1, h2, h3⟩ := h k hk
  exact ⟨ad, v, e, ⟨h1.1, Nat.lt_of_lt_of_le h1.2 hb.size⟩, (hb.cell (p := ad.add k) (by rw [block_add]; exact h1.2)).trans h2, (h3.kept fun a x ha h => (hb.cell (p := a) ha.2).trans h).mono fun b hb' => ⟨hb'.1, Nat.lt_of_lt_of_le hb'.2 hb.size⟩⟩
def noPair : Value := .agg #[.slice none 0 0, .slice none 0 0]
/-- What Entry answers with, of two rows of texts. -/
def FoundE (c : Int) (w W : World) (e : Ending) (own oth : List (List UInt8)) : Prop :=
  (e = .returned (.tuple #[noPair, .bool false]) ∧ ∀ i, i < own.length → ¬ Bad c (own.getD i []) (oth.getD i [])) ∨
  (∃ i u1 u2, i < own.length ∧ Bad c (own.getD i []) (oth.getD i []) ∧ e = .returned (.tuple #[.agg #[u1, u2], .bool true]) ∧ RdB W (fun b => w.heap.size ≤ b ∧ b < W.heap.size) u1 (own.getD i []) ∧ RdB W (fun b => w.heap.size ≤ b ∧ b < W.heap.size) u2 (oth.getD i []))
theorem textsP_each (c : Int) : ∀ (bs : List Bool) (xs : List D) (t : List UInt8), t.length ≤ 1000001 → ∀ p ∈ textsP c bs xs t, p.length ≤ 1000001 := by
  intro bs
  induction bs with
  | nil => intro xs t h p hp; cases xs <;> (simp [textsP] at hp; subst hp; exact h)
  | cons b bs ih =>
    intro xs t h p hp
    cases xs with
    | nil => simp [textsP] at hp; subst hp; exact h
    | cons x xs =>
      simp only [textsP, List.mem_cons] at hp
      rcases hp with rfl | hp
      · exact h
      · exact ih xs _ (by rw [side_length]; omega) p hp
theorem getD_len {l : List (List UInt8)} {k : Nat} (h : ∀ p ∈ l, p.length ≤ 1000001) (hk : k < l.length) : (l.getD k []).length ≤ 1000001 := by
  rw [List.getD_eq_getElem?_getD, List.getElem?_eq_getElem hk]
  exact h _ (List.getElem_mem hk)
theorem wpList_load_run' {P : Program} {ops : Array Oper} {rest : List Oper} {o : Oper} {a : Act} {w : World} {Q : Exit → Act → World → Prop} (hgd : o.guard = none) (ty : TypeId) (x : Operand) (ho : o.op = .load ty x) (p v : Value) (hx : a.eval x = p) (hl : (Instr.loadAt ty p).run P w = .ok v w)
    (h : wpList P ops Q rest (a.put o.dst v) w) : wpList P ops Q (o :: rest) a w :=
  wpList_plain hgd fun _ hK => oper_load ty x ho p v hx hl (hK _ _ h)
theorem cell_other {W W' : World} {g : Nat} (hk : ∀ b, b ≠ g → W'.heap[b]? = W.heap[b]?) {a : Addr} (ha : a.block ≠ g) : W'.cell? a = W.cell? a := World.cell?_of_block (hk a.block ha)
set_option maxRecDepth 100000 in
set_option maxHeartbeats 8000000 in
theorem entryS_yes (c : Int) (A : Option Addr) (n cp : Nat) (ps : List (List UInt8)) (Ae : Option Addr) (ne ce : Nat) (entry : List UInt8) (a : Nat) (Av : Option Addr) (nv cv : Nat) (path : List D) (w : World) (hT : Tables w)
    (hn : ps.length = n) (ha : a < n) (hm : n ≤ 1000000) (hc : n ≤ cp) (hl : ∀ p ∈ ps, p.length ≤ 1000000) (hr : RdP w (fun b => b < w.heap.size) A ps) (hne : entry.length = ne) (hle : ne ≤ 1000000) (he : RdB w (fun b => b < w.heap.size) (.slice Ae ne ce) entry)
    (hnv : path.length = nv) (hv70 : nv ≤ 100) (hp : RdI w (fun b => b < w.heap.size) (.slice Av nv cv) path)
    (hv : leadsV c entry (a : Int) (n : Int) path (rootC c ps) = true) :
    Calls Tryd.prog 34 #[.int .i64 c, .slice A n cp, .slice Ae ne ce, .int .i64 (a : Int), .slice Av nv cv] w fun e w' => FoundE c w w' e (textsP c (stepsB a (n - 1)) (wayC c ps a) (0 :: ps.getD a [])) (textsP c (stepsB a (n - 1)) path (0 :: entry)) ∧ Below w.heap.size w w' := by
  have hwl := wayC_leads c n ps a hn ha
  have hw20 := wayC_length c n ps a hn ha hm
  have hplen : path.length = (stepsB a (n - 1)).length := by
    unfold leadsV at hv
    rw [if_neg (by omega), Int.toNat_natCast, Int.toNat_natCast, Bool.and_eq_true] at hv
    exact of_decide_eq_true hv.1
  have hpa : (ps.getD a []).length ≤ 1000000 := by
    rw [List.getD_eq_getElem?_getD, List.getElem?_eq_getElem (by omega)]
    exact hl _ (List.getElem_mem _)
  have ho1 : textsC c entry a n path = textsP c (stepsB a (n - 1)) path (0 :: entry) := by unfold textsC; rw [if_pos hplen]
  have ho2 : textsC c (ps.getD a []) a n (wayC c ps a) = textsP c (stepsB a (n - 1)) (wayC c ps a) (0 :: ps.getD a []) := by unfold textsC; rw [if_pos hwl.1]
  have hlo := textsP_length c (stepsB a (n - 1)) (wayC c ps a) (0 :: ps.getD a []) hwl.1.symm
  have hlt := textsP_length c (stepsB a (n - 1)) path (0 :: entry) hplen.symm
  have heo := textsP_each c (stepsB a (n - 1)) (wayC c ps a) (0 :: ps.getD a []) (by rw [List.length_cons]; omega)
  have het := textsP_each c (stepsB a (n - 1)) path (0 :: entry) (by rw [List.length_cons]; omega)
  obtain ⟨ad, u0, rfl, hok0, hcu0, hru0⟩ := hr a (by omega)
  obtain ⟨p, hpp⟩ : ∃ p, ps.getD a [] = p := ⟨_, rfl⟩
  rw [hpp] at hpa ho2 hlo heo hru0 ⊢
  obtain ⟨Au, cu, rfl, _, _⟩ := id hru0
  obtain ⟨nu, hnu⟩ : ∃ nu, p.length = nu := ⟨_, rfl⟩
  rw [hnu] at hru0 hcu0 hpa
  have HWY : Hid (∀ W, Below w.heap.size w W → Calls Tryd.prog 24 #[.int .i64 c, .slice (some ad) n cp, .int .i64 (a : Int)] W fun e w' => ∃ v', e = .returned (.tuple #[v', .int .i64 0]) ∧ w'.ownsRow W.heap.size 23 32 v' (wayC c ps a).length (idCells (wayC c ps a)) ∧ Below W.heap.size W w') := Lib.hid fun W hb => wayS_in c n ps a (some ad) cp W hn ha hm hc hl (hT.below hb) (hr.oldS hb)
  have HRO : Hid (∀ W, Below w.heap.size w W → Calls Tryd.prog 20 #[.int .i64 c, .slice (some ad) n cp] W fun e w' => e = .returned (.agg (arr 32 fun i => bv (rootC c ps i))) ∧ Below W.heap.size W w') := Lib.hid fun W hb => root_any c n ps (some ad) cp W hn hm hc hl (hT.below hb) (hr.oldS hb)
  have HLE : Hid (∀ W, Below w.heap.size w W → Calls Tryd.prog 29 #[.int .i64 c, .slice Ae ne ce, .int .i64 (a : Int), .int .i64 (n : Int), .slice Av nv cv, .agg (arr 32 fun i => bv (rootC c ps i))] W fun e w' => e = .returned (.bool true) ∧ Below W.heap.size W w') := Lib.hid fun W hb => by
    have := leadsS_any c Ae ne ce entry (a : Int) (n : Int) (.slice Av nv cv) path (rootC c ps) W (hT.below hb) ((he.kept fun a x ha h => (hb.cell (p := a) ha).trans h).mono fun b hb' => Nat.lt_of_lt_of_le hb' hb.size) hne hle ((hp.old hb).mono fun b hb' => Nat.lt_of_lt_of_le hb' hb.size) (by omega)
    rw [hv] at this
    exact this
  obtain ⟨own, how⟩ : ∃ own, textsP c (stepsB a (n - 1)) (wayC c ps a) (0 :: p) = own := ⟨_, rfl⟩
  obtain ⟨oth, hot⟩ : ∃ oth, textsP c (stepsB a (n - 1)) path (0 :: entry) = oth := ⟨_, rfl⟩
  rw [how] at ho2 hlo heo ⊢
  rw [hot] at ho1 hlt het ⊢
  have HTX : Hid (∀ W, Below w.heap.size w W → Calls Tryd.prog 53 #[.int .i64 c, .slice Ae ne ce, .int .i64 (a : Int), .int .i64 (n : Int), .slice Av nv cv] W fun e w' => ∃ v', e = .returned v' ∧ TextsIs W w' v' oth ∧ Below W.heap.size W w') := Lib.hid fun W hb => by
    have := textsOf_any c Ae ne ce entry a n (.slice Av nv cv) path W (hT.below hb) ((he.kept fun a x ha h => (hb.cell (p := a) ha).trans h).mono fun b hb' => Nat.lt_of_lt_of_le hb' hb.size) hne hle ha (by omega) ((hp.old hb).mono fun b hb' => Nat.lt_of_lt_of_le hb' hb.size) (by omega)
    rw [ho1] at this
    exact this
  have HTW : Hid (∀ v W, Below w.heap.size w W → RdI W (fun b => b < W.heap.size) v (wayC c ps a) → Calls Tryd.prog 53 #[.int .i64 c, .slice Au nu cu, .int .i64 (a : Int), .int .i64 (n : Int), v] W fun e w' => ∃ v', e = .returned v' ∧ TextsIs W w' v' own ∧ Below W.heap.size W w') := Lib.hid fun v W hb h => by
    have := textsOf_any c Au nu cu p a n v (wayC c ps a) W (hT.below hb) ((hru0.kept fun a x ha h => (hb.cell (p := a) ha).trans h).mono fun b hb' => Nat.lt_of_lt_of_le hb' hb.size) hnu hpa ha (by omega) h (by omega)
    rw [ho2] at this
    exact this
  have HCU : Hid (∀ W, Below w.heap.size w W → W.cell? (ad.add a) = some (.slice Au nu cu)) := Lib.hid fun W hb => (hb.cell (p := ad.add a) (by rw [block_add]; exact hok0)).trans hcu0
  have HSX : Hid (∀ t, t.length ≤ 1000001 → ∀ Ax nx cx W, Below w.heap.size w W → RdB W (fun b => b < W.heap.size) (.slice Ax nx cx) t → Calls Tryd.prog 25 #[.int .i64 c, .slice Ax nx cx] W fun e w' => e = .returned (.agg (arr 32 fun i => bv ((cutD c (sha t)) i))) ∧ Below W.heap.size W w') := Lib.hid fun t ht Ax nx cx W hb h => csum_any c _ t (by omega) W (hT.below hb) h
  obtain ⟨N, hN⟩ : ∃ N, own.length = N := ⟨_, rfl⟩
  have hNo : oth.length = N := by omega
  have hst := steps_length 20 a (n - 1) (by omega)
  have hN50 : N ≤ 50 := by omega
  have HNN := Lib.hid (And.intro hN (And.intro hNo (And.intro heo het)))
  generalize wayC c ps a = P at *
  generalize rootC c ps = R at *
  have HWL := Lib.hid hw20
  have han : (a : Int) < (n : Int) := by omega
  have hna : ¬ n ≤ a := by omega
  have ha0 : (0 : Int) ≤ (a : Int) := by omega
  have hni : (n : Int) ≤ 1000000 := by omega
  have hNi : (N : Int) ≤ 50 := by omega
  clear hT hn ha hm hc hl hr hne hle he hnv hv70 hp hv hwl hw20 hplen hpa ho1 ho2 hlo hlt heo het hok0 hcu0 hru0 hpp hnu how hot hN hNo hst hN50
  go_enter Tryd.func34, Tryd.ntmps34
  go_wp2_with fail
  generalize hW : World.alloc w _ = W
  have hb0 : Below w.heap.size w W := by rw [← hW]; exact (Below.refl _ _).alloc (Nat.le_refl _) _
  have k0 : Blk W w.heap.size 62 #[.slice none 0 0, .slice none 0 0] := by rw [← hW]; exact Blk.newAt _ _ rfl rfl
  have HB0 := Lib.hid hb0
  have K0 := Lib.hid k0
  clear hW hb0 k0
  go_wp2_with (first
    | (go_at_call 24; refine (HWY.out _ HB0.out).mono ?_; rintro e W1 ⟨v6, rfl, ho6, hb1⟩; have HO6 := Lib.hid ho6; have HB1 := Lib.hid (HB0.out.trans (hb1.mono HB0.out.size)); have J1 := Lib.hid (K0.out.below hb1 K0.out.lt); clear hb1 ho6)
    | (go_at_call 20; refine (HRO.out _ HB1.out).mono ?_; rintro e W2 ⟨rfl, hb2⟩; have HB2 := Lib.hid (HB1.out.trans (hb2.mono HB1.out.size)); have J2 := Lib.hid (J1.out.below hb2 J1.out.lt); have HO62 := Lib.hid (own_below' HO6.out hb2); clear hb2)
    | (go_at_call 29; refine (HLE.out _ HB2.out).mono ?_; rintro e W3 ⟨rfl, hb3⟩; have HB3 := Lib.hid (HB2.out.trans (hb3.mono HB2.out.size)); have J3 := Lib.hid (J2.out.below hb3 J2.out.lt); have HO63 := Lib.hid (own_below' HO62.out hb3); clear hb3)
    | (go_at_call 53; have HQ4 := HO64; clear HQ4; refine (HTW.out _ _ HB4.out (sh_rd_own HO64.out (by have := HWL.out; omega))).mono ?_; rintro e W5 ⟨v56, rfl, ⟨A56, c56, rfl, hc56, hr56⟩, hb5⟩; have HR56 := Lib.hid hr56; have HB5 := Lib.hid (HB4.out.trans (hb5.mono HB4.out.size)); have K10 := Lib.hid (J4.out.below hb5 J4.out.lt); have HR15 := Lib.hid (HR14.out.laterS hb5); have HZ5 : Hid (w.heap.size + 1 ≤ W5.heap.size) := Lib.hid (by have := J4.out.lt; have := hb5.size; omega); have HZ3 : Hid (w.heap.size + 1 ≤ W3.heap.size) := Lib.hid J3.out.lt; have HZ45 : Hid (w.heap.size + 1 ≤ W4.heap.size) := Lib.hid J4.out.lt; clear hb5 hr56 hc56 hcu)
    | (go_at_call 53; refine (HTX.out _ HB3.out).mono ?_; rintro e W4 ⟨v14, rfl, ⟨A14, c14, rfl, hc14, hr14⟩, hb4⟩; have HR14 := Lib.hid hr14; have HB4 := Lib.hid (HB3.out.trans (hb4.mono HB3.out.size)); have J4 := Lib.hid (J3.out.below hb4 J3.out.lt); have HO64 := Lib.hid (own_below' HO63.out hb4); have hcu := HCU.out W4 HB4.out; have HZ4 := Lib.hid hb4.size; clear hb4 hr14 hc14))
  have HN1 := HNN.out.1
  have HN2 := HNN.out.2.1
  simp only [HN1, HN2]
  go_loopw [58] (fun i wr => ∃ k : Nat, k ≤ N ∧ i = .int .i64 (k : Int) ∧ (∀ j, j < k → ¬ Bad c (own.getD j []) (oth.getD j [])) ∧ Below W5.heap.size W5 wr) (fun i _ => N - (intOf i).toNat)
  case atStart => exact ⟨0, Nat.zero_le _, rfl, fun j hj => absurd hj (Nat.not_lt_zero j), Below.refl _ _⟩
  case round =>
    obtain ⟨i, hi, rfl, hnb, hb⟩ := hrel
    by_cases hlt : i < N
    · have hkn : (i : Int) < (N : Int) := by omega
      have hk0 : (0 : Int) ≤ (i : Int) := by omega
      obtain ⟨ad1, v1, rfl, hok1, hc1, hr1⟩ := HR56.out i (by omega)
      obtain ⟨ad2, v2, rfl, hok2, hc2, hr2⟩ := HR15.out i (by omega)
      obtain ⟨t1, ht1⟩ : ∃ t1, own.getD i [] = t1 := ⟨_, rfl⟩
      obtain ⟨t2, ht2⟩ : ∃ t2, oth.getD i [] = t2 := ⟨_, rfl⟩
      have hl1 := getD_len HNN.out.2.2.1 (k := i) (by omega)
      have hl2 := getD_len HNN.out.2.2.2 (k := i) (by omega)
      rw [ht1] at hr1 hl1
      rw [ht2] at hr2 hl2
      obtain ⟨A1, c1, rfl, _, _⟩ := id hr1
      obtain ⟨A2, c2, rfl, _, _⟩ := id hr2
      have HRD : Hid (i < own.length ∧ (t1 = own.getD i [] ∧ t2 = oth.getD i []) ∧ RdB W5 (fun b => w.heap.size + 1 ≤ b ∧ b < W5.heap.size) (.slice A1 t1.length c1) t1 ∧ RdB W5 (fun b => w.heap.size + 1 ≤ b ∧ b < W5.heap.size) (.slice A2 t2.length c2) t2) := Lib.hid ⟨by omega, ⟨ht1.symm, ht2.symm⟩, hr1.mono fun b hb => ⟨Nat.le_trans HZ45.out hb.1, hb.2⟩, hr2.mono fun b hb => ⟨Nat.le_trans HZ3.out hb.1, hb.2⟩⟩
      obtain ⟨n1, hn1⟩ : ∃ n1, t1.length = n1 := ⟨_, rfl⟩
      obtain ⟨n2, hn2⟩ : ∃ n2, t2.length = n2 := ⟨_, rfl⟩
      rw [hn1, hn2] at HRD
      rw [hn1] at hc1
      rw [hn2] at hc2
      have HS8 : Hid (∀ W', Below W5.heap.size W5 W' → W'.cell? (ad2.add i) = some (.slice A2 n2 c2)) := Lib.hid fun W' hb' => (hb'.cell (p := ad2.add i) (by rw [block_add]; exact hok2.2)).trans hc2
      have hcu1 : wr.cell? (ad1.add i) = some (.slice A1 n1 c1) := (hb.cell (p := ad1.add i) (by rw [block_add]; exact hok1.2)).trans hc1
      obtain ⟨β, hβ⟩ : ∃ β, (t1 == t2) = β := ⟨_, rfl⟩
      obtain ⟨S1, hS1⟩ : ∃ S, cutD c (sha t1) = S := ⟨_, rfl⟩
      obtain ⟨S2, hS2⟩ : ∃ S, cutD c (sha t2) = S := ⟨_, rfl⟩
      obtain ⟨γ, hγ⟩ : ∃ γ, (id32 S1 == id32 S2) = γ := ⟨_, rfl⟩
      have hq := fun W => eql_id S1 S2 W
      rw [hγ] at hq
      have HEQ : Hid (∀ W', Below W5.heap.size W5 W' → Calls Tryd.prog 55 #[.slice A1 n1 c1, .slice A2 n2 c2] W' fun e w' => e = .returned (.bool β) ∧ w' = W') := Lib.hid fun W' hb' => by
        have := bytesEq_any A1 A2 n1 n2 c1 c2 t1 t2 W' ((HRD.out.2.2.1.kept fun a x ha h => (hb'.cell (p := a) ha.2).trans h).mono fun b hb'' => Nat.lt_of_lt_of_le hb''.2 hb'.size) ((HRD.out.2.2.2.kept fun a x ha h => (hb'.cell (p := a) ha.2).trans h).mono fun b hb'' => Nat.lt_of_lt_of_le hb''.2 hb'.size)
        rw [hβ] at this
        exact this
      have HSO : Hid (∀ W', Below W5.heap.size W5 W' → Calls Tryd.prog 25 #[.int .i64 c, .slice A1 n1 c1] W' fun e w' => e = .returned (.agg (arr 32 fun i => bv (S1 i))) ∧ Below W'.heap.size W' w') := Lib.hid fun W' hb' => by
        have := HSX.out t1 hl1 A1 n1 c1 W' (HB5.out.trans (hb'.mono HB5.out.size)) ((HRD.out.2.2.1.kept fun a x ha h => (hb'.cell (p := a) ha.2).trans h).mono fun b hb'' => Nat.lt_of_lt_of_le hb''.2 hb'.size)
        rw [hS1] at this
        exact this
      have HST : Hid (∀ W', Below W5.heap.size W5 W' → Calls Tryd.prog 25 #[.int .i64 c, .slice A2 n2 c2] W' fun e w' => e = .returned (.agg (arr 32 fun i => bv (S2 i))) ∧ Below W'.heap.size W' w') := Lib.hid fun W' hb' => by
        have := HSX.out t2 hl2 A2 n2 c2 W' (HB5.out.trans (hb'.mono HB5.out.size)) ((HRD.out.2.2.2.kept fun a x ha h => (hb'.cell (p := a) ha.2).trans h).mono fun b hb'' => Nat.lt_of_lt_of_le hb''.2 hb'.size)
        rw [hS2] at this
        exact this
      have HQQ : Hid (Bad c t1 t2 ↔ β = false ∧ γ = true) := Lib.hid (by
        unfold Bad
        rw [hS1, hS2, ← hβ, ← hγ, beq_iff_eq, beq_eq_false_iff_ne])
      have HNB0 : Hid (β = true ∨ γ = false → ∀ j, j < i + 1 → ¬ Bad c (own.getD j []) (oth.getD j [])) := Lib.hid fun h j hj => by
        by_cases hji : j < i
        · exact hnb j hji
        · obtain rfl : j = i := by omega
          rw [ht1, ht2, HQQ.out]
          rcases h with h | h <;> simp [h]
      have hbX := hb.drew
      have hm1 : (i : Int) ≤ 50 := by omega
      have HQ := Lib.hid hq
      clear hq hnb hb hok1 hok2 hc1 hc2 hr1 hr2 ht1 ht2 hl1 hl2 hn1 hn2 hβ hS1 hS2 hγ
      go_upto_region 8 with fail
      have hq := HQ.out
      cases β with
      | true =>
        have HNB := Lib.hid (HNB0.out (Or.inl rfl))
        refine wp_region_held_drew (S := fun W' => W'.cell? (ad2.add i) = some (.slice A2 n2 c2)) (by kernel_rfl) ?_ (fun hHeld => ?_)
        · exact HS8.out _ hbX
        refine wpAnyH_take (i := 0) (oi := ⟨some 63, _, _, _, _, _⟩) (v := ?_) rfl (by kernel_rfl) (by kernel_rfl) (by kernel_rfl) (fun _ _ _ h => h) (Or.inl ⟨by rfl, ?_⟩) (by assumption) ?_
        rotate_left
        · intro w hSw; (try dsimp only at hSw); go_simp; try (with_reducible rfl)
        rotate_left 0
        try simp only [Act.put, List.setIfInBounds_toArray, List.set_cons_zero, List.set_cons_succ]
        refine wpAnyH_take (i := 1) (oi := ⟨some 64, _, _, _, _, _⟩) (v := ?_) rfl (by kernel_rfl) (by kernel_rfl) (by kernel_rfl) (fun _ _ _ h => h) (Or.inl ⟨by rfl, ?_⟩) (by assumption) ?_
        rotate_left
        · intro w hSw; (try dsimp only at hSw); go_simp; try (with_reducible rfl)
        rotate_left 0
        try simp only [Act.put, List.setIfInBounds_toArray, List.set_cons_zero, List.set_cons_succ]
        refine wpAnyH_take (i := 2) (oi := ⟨some 65, _, _, _, _, _⟩) (v := ?_) rfl (by kernel_rfl) (by kernel_rfl) (by kernel_rfl) (fun _ _ _ h => h) (Or.inl ⟨by rfl, ?_⟩) (by assumption) ?_
        rotate_left
        · intro w hSw; (try dsimp only at hSw); go_simp; try (with_reducible rfl)
        rotate_left 0
        try simp only [Act.put, List.setIfInBounds_toArray, List.set_cons_zero, List.set_cons_succ]
        refine wpAnyH_take (i := 3) (oi := ⟨some 66, _, _, _, _, _⟩) (v := ?_) rfl (by kernel_rfl) (by kernel_rfl) (by kernel_rfl) (fun _ _ _ h => h) (Or.inl ⟨by rfl, ?_⟩) (by assumption) ?_
        rotate_left
        · intro w hSw; (try dsimp only at hSw); go_simp; try (with_reducible rfl)
        rotate_left 0
        try simp only [Act.put, List.setIfInBounds_toArray, List.set_cons_zero, List.set_cons_succ]
        refine wpAnyH_take (i := 4) (oi := ⟨some 67, _, _, _, _, _⟩) (v := (.slice A2 n2 c2)) rfl (by kernel_rfl) (by kernel_rfl) (by kernel_rfl) (fun _ _ _ h => h) (yieldsIf_load_one' (by rfl) 50 _ rfl (ad2.add i) rfl _ _ (fun _ hS => hS) Tryd.underlying50 rfl) (by assumption) ?_
        try simp only [Act.put, List.setIfInBounds_toArray, List.set_cons_zero, List.set_cons_succ]
        refine wpAnyH_ready (rs := [5]) (by kernel_rfl) (by simp) ?_
        refine (AllReadyH.cons (o := ⟨some 68, _, _, _, _, _⟩) rfl (fun K hK => ?_) AllReadyH.nil)
        (try rw [if_pos (by rfl)])
        go_simp
        refine (HEQ.out _ hbX).mono ?_
        rintro e Wq ⟨rfl, hWq⟩
        obtain rfl := hWq.symm
        try dsimp only
        refine hK.out _ _ (HS8.out _ hbX) (fun hHeld => ?_)
        clear hK K
        try simp only [Act.put, List.setIfInBounds_toArray, List.set_cons_zero, List.set_cons_succ]
        refine wpAnyH_take (i := 6) (oi := ⟨some 69, _, _, _, _, _⟩) (v := ?_) rfl (by kernel_rfl) (by kernel_rfl) (by kernel_rfl) (fun _ _ _ h => h) (Or.inl ⟨by rfl, ?_⟩) (by assumption) ?_
        rotate_left
        · intro w hSw; (try dsimp only at hSw); go_simp; try (with_reducible rfl)
        rotate_left 0
        try simp only [Act.put, List.setIfInBounds_toArray, List.set_cons_zero, List.set_cons_succ]
        refine wpAnyH_take (i := 7) (oi := ⟨some 70, _, _, _, _, _⟩) (v := ?_) rfl (by kernel_rfl) (by kernel_rfl) (by kernel_rfl) (fun _ _ _ h => h) (Or.inl ⟨by rfl, ?_⟩) (by assumption) ?_
        rotate_left
        · intro w hSw; (try dsimp only at hSw); go_simp; try (with_reducible rfl)
        rotate_left 0
        try simp only [Act.put, List.setIfInBounds_toArray, List.set_cons_zero, List.set_cons_succ]
        refine wpAnyH_take (i := 8) (oi := ⟨some 71, _, _, _, _, _⟩) (v := undef) rfl (by kernel_rfl) (by kernel_rfl) (by kernel_rfl) (fun _ _ _ h => h) (Or.inr ⟨by rfl, rfl⟩) (by assumption) ?_
        try simp only [Act.put, List.setIfInBounds_toArray, List.set_cons_zero, List.set_cons_succ]
        refine wpAnyH_take (i := 9) (oi := ⟨some 72, _, _, _, _, _⟩) (v := undef) rfl (by kernel_rfl) (by kernel_rfl) (by kernel_rfl) (fun _ _ _ h => h) (Or.inr ⟨by rfl, rfl⟩) (by assumption) ?_
        try simp only [Act.put, List.setIfInBounds_toArray, List.set_cons_zero, List.set_cons_succ]
        refine wpAnyH_take (i := 10) (oi := ⟨some 73, _, _, _, _, _⟩) (v := undef) rfl (by kernel_rfl) (by kernel_rfl) (by kernel_rfl) (fun _ _ _ h => h) (Or.inr ⟨by rfl, rfl⟩) (by assumption) ?_
        try simp only [Act.put, List.setIfInBounds_toArray, List.set_cons_zero, List.set_cons_succ]
        refine wpAnyH_take (i := 11) (oi := ⟨some 74, _, _, _, _, _⟩) (v := undef) rfl (by kernel_rfl) (by kernel_rfl) (by kernel_rfl) (fun _ _ _ h => h) (Or.inr ⟨by rfl, rfl⟩) (by assumption) ?_
        try simp only [Act.put, List.setIfInBounds_toArray, List.set_cons_zero, List.set_cons_succ]
        refine wpAnyH_take (i := 12) (oi := ⟨some 75, _, _, _, _, _⟩) (v := undef) rfl (by kernel_rfl) (by kernel_rfl) (by kernel_rfl) (fun _ _ _ h => h) (Or.inr ⟨by rfl, rfl⟩) (by assumption) ?_
        try simp only [Act.put, List.setIfInBounds_toArray, List.set_cons_zero, List.set_cons_succ]
        refine wpAnyH_take (i := 13) (oi := ⟨some 76, _, _, _, _, _⟩) (v := undef) rfl (by kernel_rfl) (by kernel_rfl) (by kernel_rfl) (fun _ _ _ h => h) (Or.inr ⟨by rfl, rfl⟩) (by assumption) ?_
        try simp only [Act.put, List.setIfInBounds_toArray, List.set_cons_zero, List.set_cons_succ]
        refine wpAnyH_take (i := 14) (oi := ⟨some 77, _, _, _, _, _⟩) (v := undef) rfl (by kernel_rfl) (by kernel_rfl) (by kernel_rfl) (fun _ _ _ h => h) (Or.inr ⟨by rfl, rfl⟩) (by assumption) ?_
        try simp only [Act.put, List.setIfInBounds_toArray, List.set_cons_zero, List.set_cons_succ]
        refine wpAnyH_take (i := 15) (oi := ⟨some 78, _, _, _, _, _⟩) (v := undef) rfl (by kernel_rfl) (by kernel_rfl) (by kernel_rfl) (fun _ _ _ h => h) (Or.inr ⟨by rfl, rfl⟩) (by assumption) ?_
        try simp only [Act.put, List.setIfInBounds_toArray, List.set_cons_zero, List.set_cons_succ]
        refine wpAnyH_take (i := 16) (oi := ⟨some 79, _, _, _, _, _⟩) (v := undef) rfl (by kernel_rfl) (by kernel_rfl) (by kernel_rfl) (fun _ _ _ h => h) (Or.inr ⟨by rfl, rfl⟩) (by assumption) ?_
        try simp only [Act.put, List.setIfInBounds_toArray, List.set_cons_zero, List.set_cons_succ]
        refine wpAnyH_take (i := 17) (oi := ⟨some 80, _, _, _, _, _⟩) (v := undef) rfl (by kernel_rfl) (by kernel_rfl) (by kernel_rfl) (fun _ _ _ h => h) (Or.inr ⟨by rfl, rfl⟩) (by assumption) ?_
        try simp only [Act.put, List.setIfInBounds_toArray, List.set_cons_zero, List.set_cons_succ]
        refine wpAnyH_take (i := 18) (oi := ⟨some 81, _, _, _, _, _⟩) (v := ?_) rfl (by kernel_rfl) (by kernel_rfl) (by kernel_rfl) (fun _ _ _ h => h) (Or.inl ⟨by rfl, ?_⟩) (by assumption) ?_
        rotate_left
        · intro w hSw; (try dsimp only at hSw); go_simp; try (with_reducible rfl)
        rotate_left 0
        try simp only [Act.put, List.setIfInBounds_toArray, List.set_cons_zero, List.set_cons_succ]
        refine wpAnyH_done (by kernel_rfl) ?_ _
        go_wp2_with fail
        go_roundw
        case rel => exact ⟨i + 1, by omega, by go_num, HNB.out, hbX⟩
        case measure => simp [intOf]; omega
      | false =>
        cases γ with
        | false =>
          have HNB := Lib.hid (HNB0.out (Or.inr rfl))
          refine wp_region_held_drew (S := fun W' => W'.cell? (ad2.add i) = some (.slice A2 n2 c2)) (by kernel_rfl) ?_ (fun hHeld => ?_)
          · exact HS8.out _ hbX
          refine wpAnyH_take (i := 0) (oi := ⟨some 63, _, _, _, _, _⟩) (v := ?_) rfl (by kernel_rfl) (by kernel_rfl) (by kernel_rfl) (fun _ _ _ h => h) (Or.inl ⟨by rfl, ?_⟩) (by assumption) ?_
          rotate_left
          · intro w hSw; (try dsimp only at hSw); go_simp; try (with_reducible rfl)
          rotate_left 0
          try simp only [Act.put, List.setIfInBounds_toArray, List.set_cons_zero, List.set_cons_succ]
          refine wpAnyH_take (i := 1) (oi := ⟨some 64, _, _, _, _, _⟩) (v := ?_) rfl (by kernel_rfl) (by kernel_rfl) (by kernel_rfl) (fun _ _ _ h => h) (Or.inl ⟨by rfl, ?_⟩) (by assumption) ?_
          rotate_left
          · intro w hSw; (try dsimp only at hSw); go_simp; try (with_reducible rfl)
          rotate_left 0
          try simp only [Act.put, List.setIfInBounds_toArray, List.set_cons_zero, List.set_cons_succ]
          refine wpAnyH_take (i := 2) (oi := ⟨some 65, _, _, _, _, _⟩) (v := ?_) rfl (by kernel_rfl) (by kernel_rfl) (by kernel_rfl) (fun _ _ _ h => h) (Or.inl ⟨by rfl, ?_⟩) (by assumption) ?_
          rotate_left
          · intro w hSw; (try dsimp only at hSw); go_simp; try (with_reducible rfl)
          rotate_left 0
          try simp only [Act.put, List.setIfInBounds_toArray, List.set_cons_zero, List.set_cons_succ]
          refine wpAnyH_take (i := 3) (oi := ⟨some 66, _, _, _, _, _⟩) (v := ?_) rfl (by kernel_rfl) (by kernel_rfl) (by kernel_rfl) (fun _ _ _ h => h) (Or.inl ⟨by rfl, ?_⟩) (by assumption) ?_
          rotate_left
          · intro w hSw; (try dsimp only at hSw); go_simp; try (with_reducible rfl)
          rotate_left 0
          try simp only [Act.put, List.setIfInBounds_toArray, List.set_cons_zero, List.set_cons_succ]
          refine wpAnyH_take (i := 4) (oi := ⟨some 67, _, _, _, _, _⟩) (v := (.slice A2 n2 c2)) rfl (by kernel_rfl) (by kernel_rfl) (by kernel_rfl) (fun _ _ _ h => h) (yieldsIf_load_one' (by rfl) 50 _ rfl (ad2.add i) rfl _ _ (fun _ hS => hS) Tryd.underlying50 rfl) (by assumption) ?_
          try simp only [Act.put, List.setIfInBounds_toArray, List.set_cons_zero, List.set_cons_succ]
          refine wpAnyH_ready (rs := [5]) (by kernel_rfl) (by simp) ?_
          refine (AllReadyH.cons (o := ⟨some 68, _, _, _, _, _⟩) rfl (fun K hK => ?_) AllReadyH.nil)
          (try rw [if_pos (by rfl)])
          go_simp
          refine (HEQ.out _ hbX).mono ?_
          rintro e Wq ⟨rfl, hWq⟩
          obtain rfl := hWq.symm
          try dsimp only
          refine hK.out _ _ (HS8.out _ hbX) (fun hHeld => ?_)
          clear hK K
          try simp only [Act.put, List.setIfInBounds_toArray, List.set_cons_zero, List.set_cons_succ]
          refine wpAnyH_take (i := 6) (oi := ⟨some 69, _, _, _, _, _⟩) (v := ?_) rfl (by kernel_rfl) (by kernel_rfl) (by kernel_rfl) (fun _ _ _ h => h) (Or.inl ⟨by rfl, ?_⟩) (by assumption) ?_
          rotate_left
          · intro w hSw; (try dsimp only at hSw); go_simp; try (with_reducible rfl)
          rotate_left 0
          try simp only [Act.put, List.setIfInBounds_toArray, List.set_cons_zero, List.set_cons_succ]
          refine wpAnyH_take (i := 7) (oi := ⟨some 70, _, _, _, _, _⟩) (v := ?_) rfl (by kernel_rfl) (by kernel_rfl) (by kernel_rfl) (fun _ _ _ h => h) (Or.inl ⟨by rfl, ?_⟩) (by assumption) ?_
          rotate_left
          · intro w hSw; (try dsimp only at hSw); go_simp; try (with_reducible rfl)
          rotate_left 0
          try simp only [Act.put, List.setIfInBounds_toArray, List.set_cons_zero, List.set_cons_succ]
          refine wpAnyH_take (i := 8) (oi := ⟨some 71, _, _, _, _, _⟩) (v := ?_) rfl (by kernel_rfl) (by kernel_rfl) (by kernel_rfl) (fun _ _ _ h => h) (Or.inl ⟨by rfl, ?_⟩) (by assumption) ?_
          rotate_left
          · intro w hSw; (try dsimp only at hSw); go_simp; try (with_reducible rfl)
          rotate_left 0
          try simp only [Act.put, List.setIfInBounds_toArray, List.set_cons_zero, List.set_cons_succ]
          refine wpAnyH_take (i := 9) (oi := ⟨some 72, _, _, _, _, _⟩) (v := ?_) rfl (by kernel_rfl) (by kernel_rfl) (by kernel_rfl) (fun _ _ _ h => h) (Or.inl ⟨by rfl, ?_⟩) (by assumption) ?_
          rotate_left
          · intro w hSw; (try dsimp only at hSw); go_simp; try (with_reducible rfl)
          rotate_left 0
          try simp only [Act.put, List.setIfInBounds_toArray, List.set_cons_zero, List.set_cons_succ]
          refine wpAnyH_take (i := 11) (oi := ⟨some 74, _, _, _, _, _⟩) (v := ?_) rfl (by kernel_rfl) (by kernel_rfl) (by kernel_rfl) (fun _ _ _ h => h) (Or.inl ⟨by rfl, ?_⟩) (by assumption) ?_
          rotate_left
          · intro w hSw; (try dsimp only at hSw); go_simp; try (with_reducible rfl)
          rotate_left 0
          try simp only [Act.put, List.setIfInBounds_toArray, List.set_cons_zero, List.set_cons_succ]
          refine wpAnyH_take (i := 12) (oi := ⟨some 75, _, _, _, _, _⟩) (v := ?_) rfl (by kernel_rfl) (by kernel_rfl) (by kernel_rfl) (fun _ _ _ h => h) (Or.inl ⟨by rfl, ?_⟩) (by assumption) ?_
          rotate_left
          · intro w hSw; (try dsimp only at hSw); go_simp; try (with_reducible rfl)
          rotate_left 0
          try simp only [Act.put, List.setIfInBounds_toArray, List.set_cons_zero, List.set_cons_succ]
          refine wpAnyH_take (i := 13) (oi := ⟨some 76, _, _, _, _, _⟩) (v := ?_) rfl (by kernel_rfl) (by kernel_rfl) (by kernel_rfl) (fun _ _ _ h => h) (Or.inl ⟨by rfl, ?_⟩) (by assumption) ?_
          rotate_left
          · intro w hSw; (try dsimp only at hSw); go_simp; try (with_reducible rfl)
          rotate_left 0
          try simp only [Act.put, List.setIfInBounds_toArray, List.set_cons_zero, List.set_cons_succ]
          refine wpAnyH_take (i := 14) (oi := ⟨some 77, _, _, _, _, _⟩) (v := ?_) rfl (by kernel_rfl) (by kernel_rfl) (by kernel_rfl) (fun _ _ _ h => h) (Or.inl ⟨by rfl, ?_⟩) (by assumption) ?_
          rotate_left
          · intro w hSw; (try dsimp only at hSw); go_simp; try (with_reducible rfl)
          rotate_left 0
          try simp only [Act.put, List.setIfInBounds_toArray, List.set_cons_zero, List.set_cons_succ]
          refine wpAnyH_take (i := 15) (oi := ⟨some 78, _, _, _, _, _⟩) (v := (.slice A2 n2 c2)) rfl (by kernel_rfl) (by kernel_rfl) (by kernel_rfl) (fun _ _ _ h => h) (yieldsIf_load_one' (by rfl) 50 _ rfl (ad2.add i) rfl _ _ (fun _ hS => hS) Tryd.underlying50 rfl) (by assumption) ?_
          try simp only [Act.put, List.setIfInBounds_toArray, List.set_cons_zero, List.set_cons_succ]
          refine wpAnyH_ready (rs := [10]) (by kernel_rfl) (by simp) ?_
          refine (AllReadyH.cons (o := ⟨some 73, _, _, _, _, _⟩) rfl (fun K hK => ?_) AllReadyH.nil)
          (try rw [if_pos (by rfl)])
          go_simp
          refine (HSO.out _ hbX).mono ?_
          rintro e Wr ⟨rfl, hbQ⟩
          replace hbX := hbX.trans (hbQ.mono hbX.size)
          clear hbQ
          try dsimp only
          refine hK.out _ _ (HS8.out _ hbX) (fun hHeld => ?_)
          clear hK K
          try simp only [Act.put, List.setIfInBounds_toArray, List.set_cons_zero, List.set_cons_succ]
          refine wpAnyH_ready (rs := [16]) (by kernel_rfl) (by simp) ?_
          refine (AllReadyH.cons (o := ⟨some 79, _, _, _, _, _⟩) rfl (fun K hK => ?_) AllReadyH.nil)
          (try rw [if_pos (by rfl)])
          go_simp
          refine (HST.out _ hbX).mono ?_
          rintro e Wt ⟨rfl, hbQ⟩
          replace hbX := hbX.trans (hbQ.mono hbX.size)
          clear hbQ
          try dsimp only
          refine hK.out _ _ (HS8.out _ hbX) (fun hHeld => ?_)
          clear hK K
          try simp only [Act.put, List.setIfInBounds_toArray, List.set_cons_zero, List.set_cons_succ]
          refine wpAnyH_take (i := 17) (oi := ⟨some 80, _, _, _, _, _⟩) (v := ?_) rfl (by kernel_rfl) (by kernel_rfl) (by kernel_rfl) (fun _ _ _ h => h) (Or.inl ⟨by rfl, ?_⟩) (by assumption) ?_
          rotate_left
          · intro w hSw; (try dsimp only at hSw); go_simp; try (with_reducible rfl)
          rotate_left 0
          try simp only [Act.put, List.setIfInBounds_toArray, List.set_cons_zero, List.set_cons_succ]
          refine wpAnyH_take (i := 18) (oi := ⟨some 81, _, _, _, _, _⟩) (v := ?_) rfl (by kernel_rfl) (by kernel_rfl) (by kernel_rfl) (fun _ _ _ h => h) (Or.inl ⟨by rfl, ?_⟩) (by assumption) ?_
          rotate_left
          · intro w hSw; (try dsimp only at hSw); go_simp; try (with_reducible rfl)
          rotate_left 0
          try simp only [Act.put, List.setIfInBounds_toArray, List.set_cons_zero, List.set_cons_succ]
          refine wpAnyH_done (by kernel_rfl) ?_ _
          go_wp2_with fail
          go_roundw
          case rel => exact ⟨i + 1, by omega, by go_num, HNB.out, hbX⟩
          case measure => simp [intOf]; omega
        | true =>
          have HBAD := Lib.hid (HQQ.out.2 ⟨rfl, rfl⟩)
          refine wp_region_held_drew (S := fun W' => W'.cell? (ad2.add i) = some (.slice A2 n2 c2)) (by kernel_rfl) ?_ (fun hHeld => ?_)
          · exact HS8.out _ hbX
          refine wpAnyH_take (i := 0) (oi := ⟨some 63, _, _, _, _, _⟩) (v := ?_) rfl (by kernel_rfl) (by kernel_rfl) (by kernel_rfl) (fun _ _ _ h => h) (Or.inl ⟨by rfl, ?_⟩) (by assumption) ?_
          rotate_left
          · intro w hSw; (try dsimp only at hSw); go_simp; try (with_reducible rfl)
          rotate_left 0
          try simp only [Act.put, List.setIfInBounds_toArray, List.set_cons_zero, List.set_cons_succ]
          refine wpAnyH_take (i := 1) (oi := ⟨some 64, _, _, _, _, _⟩) (v := ?_) rfl (by kernel_rfl) (by kernel_rfl) (by kernel_rfl) (fun _ _ _ h => h) (Or.inl ⟨by rfl, ?_⟩) (by assumption) ?_
          rotate_left
          · intro w hSw; (try dsimp only at hSw); go_simp; try (with_reducible rfl)
          rotate_left 0
          try simp only [Act.put, List.setIfInBounds_toArray, List.set_cons_zero, List.set_cons_succ]
          refine wpAnyH_take (i := 2) (oi := ⟨some 65, _, _, _, _, _⟩) (v := ?_) rfl (by kernel_rfl) (by kernel_rfl) (by kernel_rfl) (fun _ _ _ h => h) (Or.inl ⟨by rfl, ?_⟩) (by assumption) ?_
          rotate_left
          · intro w hSw; (try dsimp only at hSw); go_simp; try (with_reducible rfl)
          rotate_left 0
          try simp only [Act.put, List.setIfInBounds_toArray, List.set_cons_zero, List.set_cons_succ]
          refine wpAnyH_take (i := 3) (oi := ⟨some 66, _, _, _, _, _⟩) (v := ?_) rfl (by kernel_rfl) (by kernel_rfl) (by kernel_rfl) (fun _ _ _ h => h) (Or.inl ⟨by rfl, ?_⟩) (by assumption) ?_
          rotate_left
          · intro w hSw; (try dsimp only at hSw); go_simp; try (with_reducible rfl)
          rotate_left 0
          try simp only [Act.put, List.setIfInBounds_toArray, List.set_cons_zero, List.set_cons_succ]
          refine wpAnyH_take (i := 4) (oi := ⟨some 67, _, _, _, _, _⟩) (v := (.slice A2 n2 c2)) rfl (by kernel_rfl) (by kernel_rfl) (by kernel_rfl) (fun _ _ _ h => h) (yieldsIf_load_one' (by rfl) 50 _ rfl (ad2.add i) rfl _ _ (fun _ hS => hS) Tryd.underlying50 rfl) (by assumption) ?_
          try simp only [Act.put, List.setIfInBounds_toArray, List.set_cons_zero, List.set_cons_succ]
          refine wpAnyH_ready (rs := [5]) (by kernel_rfl) (by simp) ?_
          refine (AllReadyH.cons (o := ⟨some 68, _, _, _, _, _⟩) rfl (fun K hK => ?_) AllReadyH.nil)
          (try rw [if_pos (by rfl)])
          go_simp
          refine (HEQ.out _ hbX).mono ?_
          rintro e Wq ⟨rfl, hWq⟩
          obtain rfl := hWq.symm
          try dsimp only
          refine hK.out _ _ (HS8.out _ hbX) (fun hHeld => ?_)
          clear hK K
          try simp only [Act.put, List.setIfInBounds_toArray, List.set_cons_zero, List.set_cons_succ]
          refine wpAnyH_take (i := 6) (oi := ⟨some 69, _, _, _, _, _⟩) (v := ?_) rfl (by kernel_rfl) (by kernel_rfl) (by kernel_rfl) (fun _ _ _ h => h) (Or.inl ⟨by rfl, ?_⟩) (by assumption) ?_
          rotate_left
          · intro w hSw; (try dsimp only at hSw); go_simp; try (with_reducible rfl)
          rotate_left 0
          try simp only [Act.put, List.setIfInBounds_toArray, List.set_cons_zero, List.set_cons_succ]
          refine wpAnyH_take (i := 7) (oi := ⟨some 70, _, _, _, _, _⟩) (v := ?_) rfl (by kernel_rfl) (by kernel_rfl) (by kernel_rfl) (fun _ _ _ h => h) (Or.inl ⟨by rfl, ?_⟩) (by assumption) ?_
          rotate_left
          · intro w hSw; (try dsimp only at hSw); go_simp; try (with_reducible rfl)
          rotate_left 0
          try simp only [Act.put, List.setIfInBounds_toArray, List.set_cons_zero, List.set_cons_succ]
          refine wpAnyH_take (i := 8) (oi := ⟨some 71, _, _, _, _, _⟩) (v := ?_) rfl (by kernel_rfl) (by kernel_rfl) (by kernel_rfl) (fun _ _ _ h => h) (Or.inl ⟨by rfl, ?_⟩) (by assumption) ?_
          rotate_left
          · intro w hSw; (try dsimp only at hSw); go_simp; try (with_reducible rfl)
          rotate_left 0
          try simp only [Act.put, List.setIfInBounds_toArray, List.set_cons_zero, List.set_cons_succ]
          refine wpAnyH_take (i := 9) (oi := ⟨some 72, _, _, _, _, _⟩) (v := ?_) rfl (by kernel_rfl) (by kernel_rfl) (by kernel_rfl) (fun _ _ _ h => h) (Or.inl ⟨by rfl, ?_⟩) (by assumption) ?_
          rotate_left
          · intro w hSw; (try dsimp only at hSw); go_simp; try (with_reducible rfl)
          rotate_left 0
          try simp only [Act.put, List.setIfInBounds_toArray, List.set_cons_zero, List.set_cons_succ]
          refine wpAnyH_take (i := 11) (oi := ⟨some 74, _, _, _, _, _⟩) (v := ?_) rfl (by kernel_rfl) (by kernel_rfl) (by kernel_rfl) (fun _ _ _ h => h) (Or.inl ⟨by rfl, ?_⟩) (by assumption) ?_
          rotate_left
          · intro w hSw; (try dsimp only at hSw); go_simp; try (with_reducible rfl)
          rotate_left 0
          try simp only [Act.put, List.setIfInBounds_toArray, List.set_cons_zero, List.set_cons_succ]
          refine wpAnyH_take (i := 12) (oi := ⟨some 75, _, _, _, _, _⟩) (v := ?_) rfl (by kernel_rfl) (by kernel_rfl) (by kernel_rfl) (fun _ _ _ h => h) (Or.inl ⟨by rfl, ?_⟩) (by assumption) ?_
          rotate_left
          · intro w hSw; (try dsimp only at hSw); go_simp; try (with_reducible rfl)
          rotate_left 0
          try simp only [Act.put, List.setIfInBounds_toArray, List.set_cons_zero, List.set_cons_succ]
          refine wpAnyH_take (i := 13) (oi := ⟨some 76, _, _, _, _, _⟩) (v := ?_) rfl (by kernel_rfl) (by kernel_rfl) (by kernel_rfl) (fun _ _ _ h => h) (Or.inl ⟨by rfl, ?_⟩) (by assumption) ?_
          rotate_left
          · intro w hSw; (try dsimp only at hSw); go_simp; try (with_reducible rfl)
          rotate_left 0
          try simp only [Act.put, List.setIfInBounds_toArray, List.set_cons_zero, List.set_cons_succ]
          refine wpAnyH_take (i := 14) (oi := ⟨some 77, _, _, _, _, _⟩) (v := ?_) rfl (by kernel_rfl) (by kernel_rfl) (by kernel_rfl) (fun _ _ _ h => h) (Or.inl ⟨by rfl, ?_⟩) (by assumption) ?_
          rotate_left
          · intro w hSw; (try dsimp only at hSw); go_simp; try (with_reducible rfl)
          rotate_left 0
          try simp only [Act.put, List.setIfInBounds_toArray, List.set_cons_zero, List.set_cons_succ]
          refine wpAnyH_take (i := 15) (oi := ⟨some 78, _, _, _, _, _⟩) (v := (.slice A2 n2 c2)) rfl (by kernel_rfl) (by kernel_rfl) (by kernel_rfl) (fun _ _ _ h => h) (yieldsIf_load_one' (by rfl) 50 _ rfl (ad2.add i) rfl _ _ (fun _ hS => hS) Tryd.underlying50 rfl) (by assumption) ?_
          try simp only [Act.put, List.setIfInBounds_toArray, List.set_cons_zero, List.set_cons_succ]
          refine wpAnyH_ready (rs := [10]) (by kernel_rfl) (by simp) ?_
          refine (AllReadyH.cons (o := ⟨some 73, _, _, _, _, _⟩) rfl (fun K hK => ?_) AllReadyH.nil)
          (try rw [if_pos (by rfl)])
          go_simp
          refine (HSO.out _ hbX).mono ?_
          rintro e Wr ⟨rfl, hbQ⟩
          replace hbX := hbX.trans (hbQ.mono hbX.size)
          clear hbQ
          try dsimp only
          refine hK.out _ _ (HS8.out _ hbX) (fun hHeld => ?_)
          clear hK K
          try simp only [Act.put, List.setIfInBounds_toArray, List.set_cons_zero, List.set_cons_succ]
          refine wpAnyH_ready (rs := [16]) (by kernel_rfl) (by simp) ?_
          refine (AllReadyH.cons (o := ⟨some 79, _, _, _, _, _⟩) rfl (fun K hK => ?_) AllReadyH.nil)
          (try rw [if_pos (by rfl)])
          go_simp
          refine (HST.out _ hbX).mono ?_
          rintro e Wt ⟨rfl, hbQ⟩
          replace hbX := hbX.trans (hbQ.mono hbX.size)
          clear hbQ
          try dsimp only
          refine hK.out _ _ (HS8.out _ hbX) (fun hHeld => ?_)
          clear hK K
          try simp only [Act.put, List.setIfInBounds_toArray, List.set_cons_zero, List.set_cons_succ]
          refine wpAnyH_take (i := 17) (oi := ⟨some 80, _, _, _, _, _⟩) (v := ?_) rfl (by kernel_rfl) (by kernel_rfl) (by kernel_rfl) (fun _ _ _ h => h) (Or.inl ⟨by rfl, ?_⟩) (by assumption) ?_
          rotate_left
          · intro w hSw; (try dsimp only at hSw); go_simp; try (with_reducible rfl)
          rotate_left 0
          try simp only [Act.put, List.setIfInBounds_toArray, List.set_cons_zero, List.set_cons_succ]
          refine wpAnyH_take (i := 18) (oi := ⟨some 81, _, _, _, _, _⟩) (v := ?_) rfl (by kernel_rfl) (by kernel_rfl) (by kernel_rfl) (fun _ _ _ h => h) (Or.inl ⟨by rfl, ?_⟩) (by assumption) ?_
          rotate_left
          · intro w hSw; (try dsimp only at hSw); go_simp; try (with_reducible rfl)
          rotate_left 0
          try simp only [Act.put, List.setIfInBounds_toArray, List.set_cons_zero, List.set_cons_succ]
          refine wpAnyH_done (by kernel_rfl) ?_ _
          have k10 := K10.out.below hbX K10.out.lt
          have hcell := HS8.out _ hbX
          go_wp2_with (first
            | (guard_target = wpList _ _ _ (Oper.mk _ (.load 50 _) _ _ _ _ :: _) _ _; refine wpList_load_run' rfl 50 _ rfl _ (.slice A2 n2 c2) rfl (loadVar_one Tryd.underlying50 rfl hcell) ?_)
            | (guard_target = wpList _ _ _ (Oper.mk _ (.build _ _) _ _ _ _ :: _) _ _; refine wpList_buildTo (by rfl) 62 _ rfl #[.slice A1 n1 c1, .slice A2 n2 c2] (by kernel_rfl) ?_)
            | (refine wpList_store_arrW rfl 62 _ _ rfl w.heap.size #[.slice A1 n1 c1, .slice A2 n2 c2] rfl rfl 62 _ k10 (by kernel_rfl) rfl (by kernel_rfl) ?_; intro W9 hS9 hz9 hb9 hk9))
          refine bodyPost_ret (results_cell_tmp (p := 10) (q := 11) rfl _ _ w.heap.size 62 _ _ rfl hS9 Tryd.underlying62 rfl (by kernel_rfl)) rfl ?_
          refine ⟨Or.inr ⟨i, .slice A1 n1 c1, .slice A2 n2 c2, HRD.out.1, ?_, rfl, ?_, ?_⟩, HB5.out.trans ((hbX.mono HB5.out.size).trans hb9)⟩
          · rw [← HRD.out.2.1.1, ← HRD.out.2.1.2]
            exact HBAD.out
          · rw [← HRD.out.2.1.1]
            exact (HRD.out.2.2.1.kept fun a x ha h => (cell_other hk9 (by have := ha.1; omega)).trans ((hbX.cell (p := a) ha.2).trans h)).mono fun b hb => ⟨Nat.le_of_succ_le hb.1, Nat.lt_of_lt_of_le hb.2 (Nat.le_trans hbX.size (Nat.le_of_eq hz9.symm))⟩
          · rw [← HRD.out.2.1.2]
            exact (HRD.out.2.2.2.kept fun a x ha h => (cell_other hk9 (by have := ha.1; omega)).trans ((hbX.cell (p := a) ha.2).trans h)).mono fun b hb => ⟨Nat.le_of_succ_le hb.1, Nat.lt_of_lt_of_le hb.2 (Nat.le_trans hbX.size (Nat.le_of_eq hz9.symm))⟩
    · obtain rfl : i = N := by omega
      have hkn : ¬ (i : Int) < (i : Int) := by omega
      have HNBE := Lib.hid hnb
      have k10 := K10.out.below hb K10.out.lt
      have HBX := Lib.hid (HB5.out.trans (hb.mono HB5.out.size))
      clear hb hnb
      go_wp2_with (first
        | (refine wpList_store_arrW rfl 62 _ _ rfl w.heap.size #[.slice none 0 0, .slice none 0 0] rfl rfl 62 _ k10 (by kernel_rfl) rfl (by kernel_rfl) ?_; intro W9 hS9 hz9 hb9 hk9))
      refine bodyPost_ret (results_cell_tmp (p := 10) (q := 11) rfl _ _ w.heap.size 62 _ _ rfl hS9 Tryd.underlying62 rfl (by kernel_rfl)) rfl ?_
      exact ⟨Or.inl ⟨rfl, by rw [HN1]; exact HNBE.out⟩, HBX.out.trans hb9⟩
end Go.Proofs.YtlnapnbccojohaaDoor
