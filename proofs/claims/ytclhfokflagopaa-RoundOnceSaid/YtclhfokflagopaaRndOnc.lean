/-
  RoundOnce, walked. No condition.
-/
import Derived.Test.YtclhfokflagopaaRndLawY
import Derived.Test.YtclhfokflagopaaRndMOnce
namespace Go.Proofs.Ytclhfokflagopaa
open Go Go.RowKit Go.Maps

/-- On RoundOnce's way: one's state, the law's own count, what was seen and what is known. -/
structure OnR (W1 : World) (B C M N C2 M2 Ms Mk j : Nat) (s : RdS) (g : OnG) (n2 : Nat) (wr : World) : Prop where
  law : LawX W1 B C M j s [C2, M2, Ms, Mk] wr
  cnt : CountAt wr C2 M2 n2 N g.c
  seen : SeenT wr Ms n2 g.seen
  known : KnownT wr Mk n2 g.known
structure Apart4 (C2 M2 Ms Mk : Nat) : Prop where
  a : C2 ≠ M2
  b : C2 ≠ Ms
  c : C2 ≠ Mk
  d : M2 ≠ Ms
  e : M2 ≠ Mk
  f : Ms ≠ Mk
theorem OnR.below {W1 : World} {B C M N C2 M2 Ms Mk j : Nat} {s : RdS} {g : OnG} {n2 : Nat} {wr w' : World} (h : OnR W1 B C M N C2 M2 Ms Mk j s g n2 wr) (hb : Below wr.heap.size wr w') : OnR W1 B C M N C2 M2 Ms Mk j s g n2 w' := ⟨h.law.below hb, h.cnt.below hb, h.seen.same (hb.block _ h.seen.lt), h.known.same (hb.block _ h.known.lt)⟩
theorem OnR.more {W1 : World} {B C M N C2 M2 Ms Mk j : Nat} {s : RdS} {g : OnG} {n2 n3 : Nat} {wr : World} (h : OnR W1 B C M N C2 M2 Ms Mk j s g n2 wr) (hn : n2 ≤ n3) : OnR W1 B C M N C2 M2 Ms Mk j s g n3 wr := ⟨h.law, h.cnt.mono hn, h.seen.mono hn, h.known.mono hn⟩
theorem OnR.base {W1 : World} {B C M N C2 M2 Ms Mk j : Nat} {s : RdS} {g : OnG} {n2 : Nat} {wr : World} (h : OnR W1 B C M N C2 M2 Ms Mk j s g n2 wr) : Below W1.heap.size W1 wr := h.law.law.base
theorem OnR.put {W1 : World} {B C M N C2 M2 Ms Mk j : Nat} {s : RdS} {g : OnG} {n2 : Nat} {V : Vt} {wr w' : World} (h : OnR W1 B C M N C2 M2 Ms Mk j s g n2 wr) (ha : Apart4 C2 M2 Ms Mk) (hc : CountAt w' C2 M2 (n2 + 1) N V) (hg : wr.grownBy w' (some M2)) : OnR W1 B C M N C2 M2 Ms Mk j s ⟨V, g.seen, g.known, g.done⟩ (n2 + 1) w' :=
  ⟨h.law.grown (by simp) hg, hc, (h.seen.same (hg.block _ h.seen.lt fun e => ha.d (Option.some.inj e).symm)).mono (Nat.le_succ _), (h.known.same (hg.block _ h.known.lt fun e => ha.e (Option.some.inj e).symm)).mono (Nat.le_succ _)⟩
theorem OnR.see {W1 : World} {B C M N C2 M2 Ms Mk j : Nat} {s : RdS} {g : OnG} {n2 : Nat} {S : Int → Int → Int → Bool} {wr w' : World} (h : OnR W1 B C M N C2 M2 Ms Mk j s g n2 wr) (ha : Apart4 C2 M2 Ms Mk) (hc : SeenT w' Ms (n2 + 1) S) (hg : wr.grownBy w' (some Ms)) : OnR W1 B C M N C2 M2 Ms Mk j s ⟨g.c, S, g.known, g.done⟩ (n2 + 1) w' :=
  ⟨h.law.grown (by simp) hg, (h.cnt.same (hg.block C2 h.cnt.ltB fun e => ha.b (Option.some.inj e)) (hg.block M2 h.cnt.ltM fun e => ha.d (Option.some.inj e))).mono (Nat.le_succ _), hc, (h.known.same (hg.block _ h.known.lt fun e => ha.f (Option.some.inj e).symm)).mono (Nat.le_succ _)⟩
theorem OnR.know {W1 : World} {B C M N C2 M2 Ms Mk j : Nat} {s : RdS} {g : OnG} {n2 : Nat} {S : List UInt8 → Bool} {wr w' : World} (h : OnR W1 B C M N C2 M2 Ms Mk j s g n2 wr) (ha : Apart4 C2 M2 Ms Mk) (hc : KnownT w' Mk (n2 + 1) S) (hg : wr.grownBy w' (some Mk)) : OnR W1 B C M N C2 M2 Ms Mk j s ⟨g.c, g.seen, S, g.done⟩ (n2 + 1) w' :=
  ⟨h.law.grown (by simp) hg, (h.cnt.same (hg.block C2 h.cnt.ltB fun e => ha.c (Option.some.inj e)) (hg.block M2 h.cnt.ltM fun e => ha.e (Option.some.inj e))).mono (Nat.le_succ _), (h.seen.same (hg.block _ h.seen.lt fun e => ha.f (Option.some.inj e))).mono (Nat.le_succ _), hc⟩
theorem OnR.book {W1 : World} {B C M N C2 M2 Ms Mk j : Nat} {s : RdS} {g g' : OnG} {n2 : Nat} {wr : World} (h : OnR W1 B C M N C2 M2 Ms Mk j s g n2 wr) (e1 : g'.c = g.c) (e2 : g'.seen = g.seen) (e3 : g'.known = g.known) : OnR W1 B C M N C2 M2 Ms Mk j s g' n2 wr := ⟨h.law, by rw [e1]; exact h.cnt, by rw [e2]; exact h.seen, by rw [e3]; exact h.known⟩
theorem wpList_store_three {ops : Array Oper} {rest : List Oper} {o : Oper} {a : Act} {w : World} {Q : Exit → Act → World → Prop} (hgd : o.guard = none) (x y : Operand) (ho : o.op = .store 53 x y) (g : Nat) (p q r : Int) (hx : a.eval x = .pointer (some ⟨g, 0, none⟩)) (hy : a.eval y = keyV p q r)
    (t : TypeId) (old : Array Value) (hg : Blk w g t old) (hold : old.size = 3)
    (h : ∀ w', Blk w' g t #[.int .i64 p, .int .i64 q, .int .i64 r] → w.grownBy w' (some g) → wpList Try.prog ops Q rest (a.put o.dst undef) w') : wpList Try.prog ops Q (o :: rest) a w :=
  wpList_store_row hgd 53 x y ho g #[.int .i64 p, .int .i64 q, .int .i64 r] hx hy t old hg (by kernel_rfl) hold (by simp [Value.oneCell']) (h _ (hg.setRow _) (grown_row _ _ _))
theorem load_three {W : World} {g t : Nat} {p q r : Int} (h : Blk W g t #[.int .i64 p, .int .i64 q, .int .i64 r]) : (Instr.loadAt 53 (.pointer (some ⟨g, 0, none⟩))).run Try.prog W = .ok (keyV p q r) W := run_loadVar_row W g t 53 #[.int .i64 p, .int .i64 q, .int .i64 r] (0, 0) _ h Try.underlying53 rfl (by kernel_rfl)
theorem yields_lookupV {P : Program} {ops : Array Oper} {S : World → Prop} {op : Oper} {a : Act} (hw : Region.wanted op (yielded ops a.tmps) = true) (m x : Operand) (t : TypeId) (hop : op.op = Op.lookup t m x false) (K e : TypeId) (L : Keyed P K) (ht : P.underlying t = some (.map K e)) {z : Value} (hz : ∀ w, (zeroValue e).run P w = .ok z w) (b n : Nat) (M : Value → Option Value)
    (hm : a.eval m = .map (some b)) (hS : ∀ w, S w → MapV P K w b n M) (key : Value) (hx : a.eval x = key) (hkey : ∃ kl, keyOf P K key = some kl) : YieldsIf P ops S op ((M key).getD z) a :=
  .inl ⟨hw, fun w hw' => by
    obtain ⟨kl, hkey⟩ := hkey
    have hrun := (hS w hw').look L ht (hz w) hkey
    unfold execOp
    simp only [hop, hm, hx, Sem.run_bind, hrun, Sem.run_pure, Result.andThen_ok]⟩
theorem yields_as {P : Program} {ops : Array Oper} {S : World → Prop} {op : Oper} {a : Act} {u v : Value} (h : YieldsIf P ops S op u a) (e : u = v) : YieldsIf P ops S op v a := e ▸ h
theorem inO_known {N : Nat} {me : Int} {g : OnG} {i : InS} (h : i.kind ≠ 1) : (inO N me g i).known = g.known := by
  funext x
  show (g.known x || _) = _
  rw [decide_eq_false h, Bool.false_and, Bool.or_false]
theorem inO_c {N : Nat} {me : Int} {g : OnG} {i : InS} (h : ¬ (i.kind = 3 ∧ i.who ≠ me)) : (inO N me g i).c = g.c := if_neg h
theorem sure_okS {W : World} {B M n : Nat} {NN : Nat} {V : Vt} (h : CountAt W B M n NN V) (r k : Int) (hr : wfi r) (hk : wfi k) (hN : NN ≤ 1000) {id : List UInt8} (hs : sureO NN V r k = some id) :
    Calls Try.prog 22 #[.pointer (some ⟨B, 0, none⟩), .int .i64 r, .int .i64 k] W fun e w' => e = .returned (.tuple #[idv id, .bool true]) ∧ Below W.heap.size W w' := by
  have := sure_any h r k hr hk hN
  rwa [hs] at this
set_option maxRecDepth 100000 in
set_option maxHeartbeats 8000000 in
theorem once_bad (a b c : Int) (_ha : wfi c) (A : Option Addr) (mm cc : Nat) (L : List InS) (w : World) (hr : RdG w w.heap.size (.slice A mm cc) L) (hl : L.length = mm) (hc : ¬ CanR a b c) : Calls Try.prog 8 #[(.agg #[.int .i64 a, .int .i64 b, .int .i64 c]), .slice A mm cc] w fun e w' => e = .returned (.bool true) ∧ Below w.heap.size w w' := by
  obtain ⟨W0, hW⟩ : ∃ W0, w.alloc (.cells #[.int .i64 a, .int .i64 b, .int .i64 c] 53) = W0 := ⟨_, rfl⟩
  have hb0 : Below w.heap.size w W0 := by rw [← hW]; exact (Below.refl _ _).alloc (Nat.le_refl _) _
  have k0 : Blk W0 w.heap.size 53 #[.int .i64 a, .int .i64 b, .int .i64 c] := by rw [← hW]; exact Blk.new _ _ _
  have HB0 := Lib.hid hb0
  have HK0 := Lib.hid k0
  have HRW := Lib.hid hr
  have HL := Lib.hid hl
  have HNW := Lib.hid fun W => newR_bad a b c W hc
  clear hr hl hb0 k0 hc
  go_enter Try.func8, Try.ntmps8
  go_upto_region 3 with (go_at_call 32; refine (agrees_any _).mono ?_; rintro e W1 ⟨rfl, hb1⟩; have HB1 := Lib.hid (HB0.out.trans (hb1.mono HB0.out.size)); have HK1 := Lib.hid (HK0.out.below hb1 HK0.out.lt); clear hb1)
  have c0 : W1.cell? ⟨w.heap.size, 0, none⟩ = some (.int .i64 a) := by rw [HK1.out.cell]; rfl
  have c1 : W1.cell? ⟨w.heap.size, 1, none⟩ = some (.int .i64 b) := by rw [HK1.out.cell]; rfl
  have c2 : W1.cell? ⟨w.heap.size, 2, none⟩ = some (.int .i64 c) := by rw [HK1.out.cell]; rfl
  go_wp2_with (go_at_call 33; refine (HNW.out _).mono ?_; rintro e W2 ⟨rfl, hb2⟩; have HB2 := Lib.hid hb2; clear hb2)
  go_ret
  exact ⟨rfl, HB1.out.trans (HB2.out.mono HB1.out.size)⟩
set_option maxRecDepth 100000 in
set_option maxHeartbeats 8000000 in
theorem once_long (a b c : Int) (ha : wfi c) (A : Option Addr) (mm cc : Nat) (L : List InS) (w : World) (hr : RdG w w.heap.size (.slice A mm cc) L) (hl : L.length = mm) (hc : CanR a b c) (hm : 100 < mm) : Calls Try.prog 8 #[(.agg #[.int .i64 a, .int .i64 b, .int .i64 c]), .slice A mm cc] w fun e w' => e = .returned (.bool true) ∧ Below w.heap.size w w' := by
  obtain ⟨W0, hW⟩ : ∃ W0, w.alloc (.cells #[.int .i64 a, .int .i64 b, .int .i64 c] 53) = W0 := ⟨_, rfl⟩
  have hb0 : Below w.heap.size w W0 := by rw [← hW]; exact (Below.refl _ _).alloc (Nat.le_refl _) _
  have k0 : Blk W0 w.heap.size 53 #[.int .i64 a, .int .i64 b, .int .i64 c] := by rw [← hW]; exact Blk.new _ _ _
  have HB0 := Lib.hid hb0
  have HK0 := Lib.hid k0
  have HRW := Lib.hid hr
  have HL := Lib.hid hl
  have HCN := Lib.hid (And.intro hc ha)
  have hmi : (100 : Int) < (mm : Int) := by omega
  clear hr hl hb0 k0 hc hm
  go_enter Try.func8, Try.ntmps8
  go_upto_region 3 with (go_at_call 32; refine (agrees_any _).mono ?_; rintro e W1 ⟨rfl, hb1⟩; have HB1 := Lib.hid (HB0.out.trans (hb1.mono HB0.out.size)); have HK1 := Lib.hid (HK0.out.below hb1 HK0.out.lt); clear hb1)
  have c0 : W1.cell? ⟨w.heap.size, 0, none⟩ = some (.int .i64 a) := by rw [HK1.out.cell]; rfl
  have c1 : W1.cell? ⟨w.heap.size, 1, none⟩ = some (.int .i64 b) := by rw [HK1.out.cell]; rfl
  have c2 : W1.cell? ⟨w.heap.size, 2, none⟩ = some (.int .i64 c) := by rw [HK1.out.cell]; rfl
  go_wp2_with (go_at_call 33; refine (newR_law a b c _ HCN.out.1 HCN.out.2 w HB1.out).mono ?_; rintro e W2 ⟨B, C, M, rfl, hlw, hbm, h1, h2, h3, hbw⟩; have HLW := Lib.hid hlw; have HBM := Lib.hid hbm; clear hlw hbm h1 h2 h3 hbw)
  go_ret
  exact ⟨rfl, HLW.out.base⟩
set_option maxRecDepth 100000 in
set_option maxHeartbeats 8000000 in
theorem once_loop (N : Nat) (b c : Int) (ha : wfi c) (hbw : wfi b) (A : Option Addr) (mm cc : Nat) (L : List InS) (w : World) (hr : RdG w w.heap.size (.slice A mm cc) L) (hl : L.length = mm) (hc : CanR (N : Int) b c) (hm : mm ≤ 100) : Calls Try.prog 8 #[(.agg #[.int .i64 (N : Int), .int .i64 b, .int .i64 c]), .slice A mm cc] w fun e w' => e = .returned (.bool true) ∧ Below w.heap.size w w' := by
  obtain ⟨W0, hW⟩ : ∃ W0, w.alloc (.cells #[.int .i64 (N : Int), .int .i64 b, .int .i64 c] 53) = W0 := ⟨_, rfl⟩
  have hb0 : Below w.heap.size w W0 := by rw [← hW]; exact (Below.refl _ _).alloc (Nat.le_refl _) _
  have k0 : Blk W0 w.heap.size 53 #[.int .i64 (N : Int), .int .i64 b, .int .i64 c] := by rw [← hW]; exact Blk.new _ _ _
  have HB0 := Lib.hid hb0
  have HK0 := Lib.hid k0
  have HRW := Lib.hid hr
  have HL := Lib.hid hl
  have HCN := Lib.hid (And.intro hc ha)
  have hmi : ¬ (100 : Int) < (mm : Int) := by omega
  have HM := Lib.hid hm
  have HWB := Lib.hid hbw
  have HNW := Lib.hid fun W => new_some (N : Int) W hc.1
  have HN1000 : Hid (N ≤ 1000) := Lib.hid (by have := faults_some hc.1; omega)
  have hmm := @run_makeMap Try.prog
  clear hr hl hb0 k0 hc hm hbw
  go_enter Try.func8, Try.ntmps8
  go_upto_region 3 with (go_at_call 32; refine (agrees_any _).mono ?_; rintro e W1 ⟨rfl, hb1⟩; have HB1 := Lib.hid (HB0.out.trans (hb1.mono HB0.out.size)); have HK1 := Lib.hid (HK0.out.below hb1 HK0.out.lt); clear hb1)
  have c0 : W1.cell? ⟨w.heap.size, 0, none⟩ = some (.int .i64 (N : Int)) := by rw [HK1.out.cell]; rfl
  have c1 : W1.cell? ⟨w.heap.size, 1, none⟩ = some (.int .i64 b) := by rw [HK1.out.cell]; rfl
  have c2 : W1.cell? ⟨w.heap.size, 2, none⟩ = some (.int .i64 c) := by rw [HK1.out.cell]; rfl
  go_upto_region 6 with (go_at_call 33; refine (newR_law (N : Int) b c _ HCN.out.1 HCN.out.2 W1 (Below.refl _ _)).mono ?_; rintro e W2 ⟨B, C, M, rfl, hlw, hbm, h1, h2, h3, hbw⟩; have HLW := Lib.hid hlw; have HBM := Lib.hid hbm; have HB2 := Lib.hid hbw; clear hlw hbm h1 h2 h3 hbw)
  clear c0 c1 c2 hmi
  have c0 : W2.cell? ⟨w.heap.size, 0, none⟩ = some (.int .i64 (N : Int)) := by rw [(HK1.out.below HB2.out HK1.out.lt).cell]; rfl
  go_upto_region 12 with (go_at_call 16; refine (HNW.out _).mono ?_; rintro e W3 ⟨rfl, hc3, hb3⟩; have HC3 := Lib.hid hc3; have HB3 := Lib.hid hb3; clear hc3 hb3)
  have hz3 : W3.heap.size = W3.heap.size := rfl
  obtain ⟨W4, hW4⟩ : ∃ x, W3.alloc (.map #[] 0) = x := ⟨_, rfl⟩
  obtain ⟨W5, hW5⟩ : ∃ x, W4.alloc (.map #[] 0) = x := ⟨_, rfl⟩
  have hz4 : W4.heap.size = W3.heap.size + 1 := by rw [← hW4]; simp
  have hz5 : W5.heap.size = W4.heap.size + 1 := by rw [← hW5]; simp
  have hb34 : Below W3.heap.size W3 W4 := by rw [← hW4]; exact (Below.refl _ _).alloc (Nat.le_refl _) _
  have hb45 : Below W4.heap.size W4 W5 := by rw [← hW5]; exact (Below.refl _ _).alloc (Nat.le_refl _) _
  have hse : SeenT W5 W3.heap.size 0 (fun _ _ _ => false) := by
    have h := seenT_made W3
    rw [hW4] at h
    exact h.same (hb45.block _ h.lt)
  have hkn : KnownT W5 (W3.heap.size + 1) 0 (fun _ => false) := by
    have h := knownT_made W4
    rw [hW5, hz4] at h
    exact h
  rw [hW4, hW5]
  have hb35 : Below W3.heap.size W3 W5 := hb34.trans (hb45.mono hb34.size)
  have hb25 : Below W2.heap.size W2 W5 := HB3.out.trans (hb35.mono HB3.out.size)
  have HAP : Hid (Apart4 (W2.heap.size + 1) W2.heap.size W3.heap.size (W3.heap.size + 1)) := Lib.hid (by have h1 := HC3.out.ltB; exact ⟨by omega, by omega, by omega, by omega, by omega, by omega⟩)
  have HON0 : Hid (OnR W1 B C M N (W2.heap.size + 1) W2.heap.size W3.heap.size (W3.heap.size + 1) 0 (newS N b c) ⟨noVotes, fun _ _ _ => false, fun _ => false, false⟩ 0 W5) := Lib.hid ⟨by
    have h := HLW.out.x.adds hb25 [W2.heap.size + 1, W2.heap.size, W3.heap.size, W3.heap.size + 1] (fun g hg => by
      have h1 := HC3.out.ltB
      simp only [List.mem_cons, List.not_mem_nil, or_false] at hg
      rcases hg with rfl | rfl | rfl | rfl <;> omega)
    exact h, HC3.out.below hb35, hse, hkn⟩
  clear c0 hz3 hz4 hz5 hb34 hb45 hse hkn hW4 hW5 hb35 hb25
  obtain ⟨C2, hC2⟩ : ∃ x, W2.heap.size + 1 = x := ⟨_, rfl⟩
  obtain ⟨M2, hM2⟩ : ∃ x, W2.heap.size = x := ⟨_, rfl⟩
  obtain ⟨Mk, hMk⟩ : ∃ x, W3.heap.size + 1 = x := ⟨_, rfl⟩
  obtain ⟨Ms, hMs⟩ : ∃ x, W3.heap.size = x := ⟨_, rfl⟩
  rw [hC2, hM2, hMk, hMs] at HAP HON0
  rw [hC2, hMk, hMs]
  clear hC2 hM2 hMk hMs
  go_upto_region 13 with fail
  go_loopw [11, 54] (fun s11 s54 wr => ∃ (j : Nat) (s : RdS) (g : OnG) (n2 : Nat), j ≤ mm ∧ s54 = .int .i64 (j : Int) ∧ s11 = .bool g.done ∧ OnR W1 B C M N C2 M2 Ms Mk j s g n2 wr ∧ OnI N b s g ∧ n2 ≤ 2000100 * j) (fun _ s54 _ => mm - (intOf s54).toNat)
  case atStart => exact ⟨0, _, ⟨noVotes, fun _ _ _ => false, fun _ => false, false⟩, 0, Nat.zero_le _, rfl, rfl, HON0.out, new_on _ _ _, by omega⟩
  case round =>
    obtain ⟨j, s, g, n2, hj, rfl, rfl, hlk, hI, hn2⟩ := hrel
    have HI := Lib.hid hI
    have HN2 := Lib.hid hn2
    have HLJ := Lib.hid hlk
    clear hlk hI hn2
    by_cases hlt : j < mm
    · have hji : (j : Int) < (mm : Int) := by omega
      have hj0 : (0 : Int) ≤ (j : Int) := by omega
      have HJL : Hid (j < 100) := Lib.hid (by have := HM.out; omega)
      obtain ⟨i, hi⟩ : ∃ i, L[j]? = some i := ⟨_, List.getElem?_eq_getElem (by rw [HL.out]; exact hlt)⟩
      obtain ⟨ad, c', he, hok, _, hld⟩ := HRW.out.here hi
      rw [HL.out] at he
      obtain ⟨rfl, -, rfl⟩ := Value.slice.inj he
      have HOK := Lib.hid hok
      have HLD := Lib.hid hld
      have HBW := Lib.hid (HB1.out.trans (HLJ.out.base.mono HB1.out.size))
      clear hi he hok hld
      go_upto_region 15 with (first
    | (guard_target = wpList _ _ _ (Oper.mk _ (.load 67 _) _ _ _ _ :: _) _ _; refine wpList_load_inn (by rfl) _ rfl (ad.add (j * 37)) i rfl (HLD.out _ HBW.out) ?_)
    | (guard_target = wpList _ _ _ (Oper.mk _ (.store 67 _ _) _ _ _ _ :: _) _ _; refine wpList_store_inn rfl _ _ rfl wr.heap.size i rfl rfl HOK.out 67 _ (Blk.newAt _ _ rfl rfl) rfl ?_; intro W9 hS9 hz9 hb9 hk9; have HS9 := Lib.hid hS9; have HB9 := Lib.hid (((Below.refl _ wr).alloc (Nat.le_refl _) _).trans hb9); clear hS9 hz9 hb9 hk9))
      have hL := HLJ.out.below HB9.out
      have HP9 : Hid (some wr.heap.size ≠ some M2 ∧ some wr.heap.size ≠ some Mk) := Lib.hid ⟨fun e => by have := HLJ.out.cnt.ltM; injection e with e; omega, fun e => by have := HLJ.out.known.lt; injection e with e; omega⟩
      have ci : W9.cell? ⟨wr.heap.size, 0, none⟩ = some (.int .i64 i.kind) := by rw [HS9.out.cell]; rfl
      by_cases h67 : i.kind = 6 ∨ i.kind = 7
      · rcases h67 with h6 | h6
        · rw [h6] at ci
          clear h6
          go_wp2_with fail
          go_roundw
          case rel => exact ⟨j + 1, s, g, n2, hlt, by go_num, rfl, ⟨hL.law.le (by omega), hL.cnt, hL.seen, hL.known⟩, HI.out, by have := HN2.out; omega⟩
          case measure => simp [intOf]; omega
        · rw [h6] at ci
          clear h6
          go_wp2_with fail
          go_roundw
          case rel => exact ⟨j + 1, s, g, n2, hlt, by go_num, rfl, ⟨hL.law.le (by omega), hL.cnt, hL.seen, hL.known⟩, HI.out, by have := HN2.out; omega⟩
          case measure => simp [intOf]; omega
      · have h6b : (i.kind == 6) = false := by rw [beq_eq_false_iff_ne]; omega
        have h7b : (i.kind == 7) = false := by rw [beq_eq_false_iff_ne]; omega
        have HK6 : Hid (i.kind ≠ 6) := Lib.hid (by omega)
        have HQ := Lib.hid (give_on hL.law.law.good HOK.out.id HI.out (by omega) (by omega))
        obtain ⟨lg, hlq⟩ : ∃ lg, giveA s i = lg := ⟨_, rfl⟩
        obtain ⟨nl, hnl⟩ : ∃ nl, lg.length = nl := ⟨_, rfl⟩
        have HLQ := Lib.hid hlq
        have HNL := Lib.hid hnl
        rw [hlq] at HQ
        clear h67 hlq hnl
        have cw : W9.cell? ⟨wr.heap.size, 3, none⟩ = some (.int .i64 i.who) := by rw [HS9.out.cell]; rfl
        have cr : W9.cell? ⟨wr.heap.size, 1, none⟩ = some (.int .i64 i.round) := by rw [HS9.out.cell]; rfl
        have cn : W9.cell? ⟨wr.heap.size, 2, none⟩ = some (.int .i64 i.num) := by rw [HS9.out.cell]; rfl
        have ca : W9.cell? ⟨w.heap.size, 1, none⟩ = some (.int .i64 b) := by rw [(HK1.out.below (hL.base) HK1.out.lt).cell]; rfl
        have HLI := Lib.hid (inn_id HS9.out HOK.out)
        by_cases h3 : i.kind = 3
        · by_cases hwm : i.who = b
          · have hin : inO N b g i = g := by
              have e1 := inO_known (N := N) (me := b) (g := g) (i := i) (by omega)
              have e2 := inO_c (N := N) (me := b) (g := g) (i := i) (fun q => q.2 hwm)
              cases g
              unfold inO at *
              simp_all
            rw [hin] at HQ
            rw [h3] at ci
            rw [hwm] at cw
            have hS9v := HS9.out
            clear hin h3 hwm HLI
            go_upto_region 21 with (first
    | (guard_target = wpList _ _ _ (Oper.mk _ (.load 67 _) _ _ _ _ :: _) _ _; refine wpList_load_inn (by rfl) _ rfl ⟨wr.heap.size, 0, none⟩ i rfl (load_inn hS9v HOK.out) ?_)
    | (go_at_call 34; refine (hL.law.give HBM.out (by have := HJL.out; omega) i HOK.out HK6.out).mono ?_; rintro e Wg ⟨vg, rfl, hog, hlg, hkp⟩; rw [HLQ.out] at hog; have hnb : nl ≤ 1000000 := HNL.out ▸ hog.2.1; obtain ⟨Aq, cq, rfl⟩ := hog.sliceN HNL.out))
            as_aux_lemma =>
              have HLG : Hid (OnR W1 B C M N C2 M2 Ms Mk (j + 1) (giveS s i) (g) n2 Wg) := Lib.hid ⟨hlg, hL.cnt.same (hkp C2 (by simp)) (hkp M2 (by simp)), hL.seen.same (hkp Ms (by simp)), hL.known.same (hkp Mk (by simp))⟩
              obtain ⟨bq, hob, hbq⟩ : ∃ bq, OwnA bq Wg (.slice Aq nl cq) lg ∧ (M2 < bq ∧ Ms < bq) := ⟨_, hog, hL.cnt.ltM, hL.seen.lt⟩
              have HOB := Lib.hid hob
              have HBQ := Lib.hid hbq
              obtain ⟨wp, hwp⟩ : ∃ z, z = wr := ⟨_, rfl⟩
              subst hwp
              have HDG : Hid ((g).done = g.done) := Lib.hid rfl
              clear hob hbq hog hlg hkp
              go_loopw [11, 96] (fun s11 s96 wr => ∃ k : Nat, k ≤ nl ∧ s96 = .int .i64 (k : Int) ∧ s11 = .bool ((lg.take k).foldl (upO N b) (g)).done ∧ OnR W1 B C M N C2 M2 Ms Mk (j + 1) (giveS s i) ((lg.take k).foldl (upO N b) (g)) (n2 + 2 * k) wr ∧ OwnA bq wr (.slice Aq nl cq) lg) (fun _ s96 _ => nl - (intOf s96).toNat)
              case atStart => exact ⟨0, Nat.zero_le _, rfl, rfl, HLG.out, HOB.out⟩
              case round =>
                obtain ⟨k, hkn, rfl, rfl, hlk, hO⟩ := hrel
                by_cases hkl : k < nl
                · have hki : (k : Int) < (nl : Int) := by omega
                  have hk0 : (0 : Int) ≤ (k : Int) := by omega
                  obtain ⟨x, hxk⟩ : ∃ x, lg[k]? = some x := ⟨_, List.getElem?_eq_getElem (by rw [HNL.out]; exact hkl)⟩
                  obtain ⟨gk, hgk⟩ : ∃ gk, (lg.take k).foldl (upO N b) (g) = gk := ⟨_, rfl⟩
                  have hok := acts_at HQ.out.1 hxk
                  rw [hgk] at hlk hok ⊢
                  obtain ⟨hsf, hd0, hk4⟩ := hok
                  rw [hd0]
                  have HD0 := Lib.hid hd0
                  have HK4 := Lib.hid hk4
                  have HSF : Hid (¬ gk.seen x.kind (keyR x) (keyN x) = true) := Lib.hid (by rw [hsf]; simp)
                  have HGK := Lib.hid hgk
                  have HXK := Lib.hid hxk
                  obtain ⟨adx, cx, hex, hxo, _, hla⟩ := hO.rd.here hxk
                  rw [HNL.out] at hex
                  obtain ⟨rfl, -, rfl⟩ := Value.slice.inj hex
                  have HLA := Lib.hid hla
                  have HXO := Lib.hid hxo
                  have HNB : Hid (n2 + 2 * k + 1 < 1000000000) := Lib.hid (by have := HN2.out; have := HJL.out; omega)
                  have HP8 : Hid (some wr.heap.size ≠ some M2 ∧ some wr.heap.size ≠ some Ms) := Lib.hid ⟨fun e => by have := hlk.cnt.ltM; injection e with e; omega, fun e => by have := hlk.seen.lt; injection e with e; omega⟩
                  clear hxk hex hxo hla hgk hsf hd0 hk4
                  go_upto_region 23 with (first
                | (guard_target = wpList _ _ _ (Oper.mk _ (.load 71 _) _ _ _ _ :: _) _ _; refine wpList_load_runS (by rfl) 71 _ rfl _ _ rfl (HLA.out _ (Below.refl _ _)) ?_)
                | (guard_target = wpList _ _ _ (Oper.mk _ (.store 71 _ _) _ _ _ _ :: _) _ _; refine wpList_store_actL rfl _ _ rfl wr.heap.size x rfl rfl HXO.out 71 _ (Blk.newAt _ _ rfl rfl) rfl ?_; intro W8 hS8 hz8 hb8 hk8; have hbn := (((Below.refl _ wr).alloc (Nat.le_refl _) _).trans hb8); replace hlk := hlk.below hbn; replace hO := hO.below hbn; clear hz8 hb8 hk8 hbn))
                  have cr : W8.cell? ⟨wr.heap.size, 1, none⟩ = some (.int .i64 x.round) := act_round hS8
                  have cn : W8.cell? ⟨wr.heap.size, 2, none⟩ = some (.int .i64 x.num) := act_num hS8
                  have ck : W8.cell? ⟨wr.heap.size, 0, none⟩ = some (.int .i64 x.kind) := by rw [hS8.cell]; rfl
                  by_cases h4 : x.kind = 4
                  · have HX4 := Lib.hid h4
                    have e1 : keyR x = 0 := if_pos h4
                    have e2 : keyN x = 0 := if_pos h4
                    rw [e1, e2, h4] at HSF
                    rw [h4] at ck
                    have HKQ := Lib.hid (HK4.out h4)
                    clear h4 e1 e2
                    go_upto_region 24 with (guard_target = wpList _ _ _ (Oper.mk _ (.store 53 _ _) _ _ _ _ :: _) _ _; refine wpList_store_three rfl _ _ rfl W8.heap.size (4) x.round x.num rfl rfl 53 _ (Blk.newAt _ _ rfl rfl) rfl ?_; intro Wk hK6 hgk; replace hgk := (grown_of_below ((Below.refl _ W8).alloc (Nat.le_refl _) _) (some W8.heap.size)).trans hgk)
                    have ck2 : Wk.cell? ⟨wr.heap.size, 0, none⟩ = some (.int .i64 4) := by rw [(hS8.grown hgk (fun e => by have := hS8.lt; injection e with e; omega)).cell]; show some (Value.int .i64 x.kind) = _; rw [HX4.out]
                    clear cr cn ck
                    go_upto_region 26 with (guard_target = wpList _ _ _ (Oper.mk _ (.store 53 _ _) _ _ _ _ :: _) _ _; refine wpList_store_three rfl _ _ rfl W8.heap.size 4 0 0 rfl rfl 53 _ hK6 rfl ?_; intro Wk2 hK7 hgk2; replace hgk := hgk.trans hgk2; clear hK6; have hK6 := hK7; clear hK7 hgk2)
                    clear ck2
                    have hbn : Below W8.heap.size W8 Wk2 := below_of_grown hgk (Nat.le_refl _) (Nat.le_refl _)
                    clear hgk
                    replace hlk := hlk.below hbn
                    replace hO := hO.below hbn
                    replace hS8 := hS8.below hbn hS8.lt
                    clear hbn
                    obtain ⟨Ts, hTs, hTv⟩ := hlk.seen
                    have HTV := Lib.hid hTv
                    have HKW := Lib.hid (k3_some (r := 4) (k := 0) (s := 0) (wfi_small (by omega) (by omega)) (wfi_small (by omega) (by omega)) (wfi_small (by omega) (by omega)))
                    clear hTv
                    go_upto_region 29 with (first
                | (guard_target = wpList _ _ _ (Oper.mk _ (.load 53 _) _ _ _ _ :: _) _ _; refine wpList_load_runS (by rfl) 53 _ rfl _ _ rfl (load_three hK6) ?_)
                | (guard_target = wpList _ _ _ (Oper.mk _ (.lookup _ _ _ _) _ _ _ _ :: _) _ _; refine wpList_lookup_V rfl _ _ 52 rfl 53 4 k3_law Try.underlying52 (bool_zero' _) Ms _ Ts rfl hTs (keyV 4 0 0) rfl HKW.out ?_; rw [HTV.out, if_neg HSF.out]; try dsimp only [Option.getD])
                | (guard_target = wpList _ _ _ (Oper.mk _ (.mapUpdate _ _ _ _) _ _ _ _ :: _) _ _; refine wpList_store_V rfl _ _ _ 52 rfl 53 4 k3_law Try.underlying52 Ms _ Ts rfl hTs (by have := HNB.out; unfold maxLen; omega) (keyV 4 0 0) (.bool true) rfl rfl HKW.out ?_; intro Wv hmv htv; replace hlk := hlk.see HAP.out (SeenT.put HTV.out hmv) (grown_of_turned htv); replace hO := hO.grown (grown_of_turned htv) HBQ.out.2; replace hS8 := hS8.grown (grown_of_turned htv) HP8.out.2; clear hmv htv hTs))
                    have ck3 : Wv.cell? ⟨wr.heap.size, 0, none⟩ = some (.int .i64 4) := by rw [hS8.cell]; show some (Value.int .i64 x.kind) = _; rw [HX4.out]
                    have cr : Wv.cell? ⟨wr.heap.size, 1, none⟩ = some (.int .i64 x.round) := act_round hS8
                    have HSU := Lib.hid (sure_okS hlk.cnt x.round 1 HXO.out.round (wfi_small (by omega) (by omega)) HN1000.out HKQ.out.1)
                    go_upto_region 34 with (first
                | (go_at_call 22; refine HSU.out.mono ?_; rintro e Wu ⟨rfl, hbn⟩; replace hlk := hlk.below hbn; replace hO := hO.below hbn; replace hS8 := hS8.below hbn hS8.lt; clear hbn)
                | (guard_target = wpList _ _ _ (Oper.mk _ (.store 24 _ _) _ _ _ _ :: _) _ _; refine wpList_store_idv rfl _ _ rfl Wu.heap.size x.id rfl rfl HXO.out.id 24 _ (Blk.newAt _ _ rfl rfl) rfl ?_; intro W7 hS7 hz7 hb7 hk7; have hbn := (((Below.refl _ Wu).alloc (Nat.le_refl _) _).trans hb7); replace hlk := hlk.below hbn; replace hO := hO.below hbn; replace hS8 := hS8.below hbn hS8.lt; clear hbn; clear hz7 hb7 hk7))
                    clear ck3 cr
                    obtain ⟨Tk, hTk, hTkv⟩ := hlk.known
                    have HTKV := Lib.hid hTkv
                    have HTKT : Hid ((Tk (idv x.id)).getD (.bool false) = .bool true) := Lib.hid (by rw [hTkv x.id HXO.out.id]; rw [if_pos HKQ.out.2.2.1]; rfl)
                    clear hTkv
                    replace hTk := hTk.same (w' := World.drew _) rfl
                    replace hS7 := hS7.drew
                    replace hlk := hlk.below (Below.refl _ _).drew
                    replace hO := hO.drew
                    replace hS8 := hS8.drew
                    refine wp_region_held_drew (S := fun W' => (Instr.loadAt 24 (.pointer (some ⟨Wu.heap.size, 0, none⟩))).run Try.prog W' = .ok (idv x.id) W' ∧ (Instr.loadAt 24 (.pointer (some ⟨wr.heap.size, 4, none⟩))).run Try.prog W' = .ok (idv x.id) W' ∧ MapV Try.prog 24 W' Mk (n2 + 2 * k + 1) Tk) (by kernel_rfl) ?_ (fun hHeld => ?_)
                    · exact ⟨run_loadVar_idv HXO.out.id hS7, act_id hS8 HXO.out, hTk⟩
                    refine wpAnyH_take (i := 0) (oi := ⟨some 144, _, _, _, _, _⟩) (v := ?_) rfl (by kernel_rfl) (by kernel_rfl) (by kernel_rfl) (fun _ _ _ h => h) (Or.inl ⟨by rfl, ?_⟩) (by assumption) ?_
                    rotate_left
                    · intro w hSw; (try dsimp only at hSw); go_simp; try (with_reducible rfl)
                    rotate_left 0
                    try simp only [Act.put, List.setIfInBounds_toArray, List.set_cons_zero, List.set_cons_succ]
                    refine wpAnyH_take (i := 1) (oi := ⟨some 145, _, _, _, _, _⟩) (v := ?_) rfl (by kernel_rfl) (by kernel_rfl) (by kernel_rfl) (fun _ _ _ h => h) (Or.inl ⟨by rfl, ?_⟩) (by assumption) ?_
                    rotate_left
                    · intro w hSw; (try dsimp only at hSw); go_simp; try (with_reducible rfl)
                    rotate_left 0
                    try simp only [Act.put, List.setIfInBounds_toArray, List.set_cons_zero, List.set_cons_succ]
                    refine wpAnyH_take (i := 2) (oi := ⟨some 146, _, _, _, _, _⟩) (v := ?_) rfl (by kernel_rfl) (by kernel_rfl) (by kernel_rfl) (fun _ _ _ h => h) (Or.inl ⟨by rfl, ?_⟩) (by assumption) ?_
                    rotate_left
                    · intro w hSw; (try dsimp only at hSw); go_simp; try (with_reducible rfl)
                    rotate_left 0
                    try simp only [Act.put, List.setIfInBounds_toArray, List.set_cons_zero, List.set_cons_succ]
                    refine wpAnyH_take (i := 3) (oi := ⟨some 147, _, _, _, _, _⟩) (v := (idv x.id)) rfl (by kernel_rfl) (by kernel_rfl) (by kernel_rfl) (fun _ _ _ h => h) (yields_run (by rfl) 24 _ rfl (.pointer (some ⟨Wu.heap.size, 0, none⟩)) _ rfl (fun W' hS => hS.1)) (by assumption) ?_
                    try simp only [Act.put, List.setIfInBounds_toArray, List.set_cons_zero, List.set_cons_succ]
                    refine wpAnyH_take (i := 4) (oi := ⟨some 148, _, _, _, _, _⟩) (v := ?_) rfl (by kernel_rfl) (by kernel_rfl) (by kernel_rfl) (fun _ _ _ h => h) (Or.inl ⟨by rfl, ?_⟩) (by assumption) ?_
                    rotate_left
                    · intro w hSw; (try dsimp only at hSw); go_simp; try (with_reducible rfl)
                    rotate_left 0
                    try simp only [Act.put, List.setIfInBounds_toArray, List.set_cons_zero, List.set_cons_succ]
                    refine wpAnyH_take (i := 5) (oi := ⟨some 149, _, _, _, _, _⟩) (v := (idv x.id)) rfl (by kernel_rfl) (by kernel_rfl) (by kernel_rfl) (fun _ _ _ h => h) (yields_run (by rfl) 24 _ rfl (.pointer (some ⟨wr.heap.size, 4, none⟩)) _ rfl (fun W' hS => hS.2.1)) (by assumption) ?_
                    try simp only [Act.put, List.setIfInBounds_toArray, List.set_cons_zero, List.set_cons_succ]
                    refine wpAnyH_take (i := 6) (oi := ⟨some 150, _, _, _, _, _⟩) (v := (.bool false)) rfl (by kernel_rfl) (by kernel_rfl) (by kernel_rfl) (fun _ _ _ h => h) (yields_as (yields_neI (by rfl) _ _ rfl x.id x.id rfl rfl HXO.out.id HXO.out.id) (by simp)) (by assumption) ?_
                    try simp only [Act.put, List.setIfInBounds_toArray, List.set_cons_zero, List.set_cons_succ]
                    refine wpAnyH_take (i := 7) (oi := ⟨some 151, _, _, _, _, _⟩) (v := ?_) rfl (by kernel_rfl) (by kernel_rfl) (by kernel_rfl) (fun _ _ _ h => h) (Or.inl ⟨by rfl, ?_⟩) (by assumption) ?_
                    rotate_left
                    · intro w hSw; (try dsimp only at hSw); go_simp; try (with_reducible rfl)
                    rotate_left 0
                    try simp only [Act.put, List.setIfInBounds_toArray, List.set_cons_zero, List.set_cons_succ]
                    refine wpAnyH_take (i := 8) (oi := ⟨some 152, _, _, _, _, _⟩) (v := ?_) rfl (by kernel_rfl) (by kernel_rfl) (by kernel_rfl) (fun _ _ _ h => h) (Or.inl ⟨by rfl, ?_⟩) (by assumption) ?_
                    rotate_left
                    · intro w hSw; (try dsimp only at hSw); go_simp; try (with_reducible rfl)
                    rotate_left 0
                    try simp only [Act.put, List.setIfInBounds_toArray, List.set_cons_zero, List.set_cons_succ]
                    refine wpAnyH_take (i := 9) (oi := ⟨some 153, _, _, _, _, _⟩) (v := (idv x.id)) rfl (by kernel_rfl) (by kernel_rfl) (by kernel_rfl) (fun _ _ _ h => h) (yields_run (by rfl) 24 _ rfl (.pointer (some ⟨Wu.heap.size, 0, none⟩)) _ rfl (fun W' hS => hS.1)) (by assumption) ?_
                    try simp only [Act.put, List.setIfInBounds_toArray, List.set_cons_zero, List.set_cons_succ]
                    refine wpAnyH_ready (rs := [10]) (by kernel_rfl) (by simp) ?_
                    refine (AllReadyH.cons (o := ⟨some 154, _, _, _, _, _⟩) rfl (fun K hK => ?_) AllReadyH.nil)
                    (try rw [if_pos (by rfl)])
                    go_simp
                    refine (nil_any _).mono ?_
                    rintro e Wn ⟨rfl, hbn⟩
                    replace hTk := hTk.same (hbn.block _ hTk.lt)
                    replace hS7 := hS7.below hbn hS7.lt
                    replace hlk := hlk.below hbn
                    replace hO := hO.below hbn
                    replace hS8 := hS8.below hbn hS8.lt
                    clear hbn
                    try dsimp only
                    refine hK.out _ _ (⟨run_loadVar_idv HXO.out.id hS7, act_id hS8 HXO.out, hTk⟩) (fun hHeld => ?_)
                    clear hK K
                    try simp only [Act.put, List.setIfInBounds_toArray, List.set_cons_zero, List.set_cons_succ]
                    refine wpAnyH_take (i := 11) (oi := ⟨some 155, _, _, _, _, _⟩) (v := (.bool false)) rfl (by kernel_rfl) (by kernel_rfl) (by kernel_rfl) (fun _ _ _ h => h) (yields_as (yields_eqI (by rfl) _ _ rfl x.id nilId rfl rfl HXO.out.id nilId_ok) (by have := HKQ.out.2.1; simpa using this)) (by assumption) ?_
                    try simp only [Act.put, List.setIfInBounds_toArray, List.set_cons_zero, List.set_cons_succ]
                    refine wpAnyH_take (i := 12) (oi := ⟨some 156, _, _, _, _, _⟩) (v := ?_) rfl (by kernel_rfl) (by kernel_rfl) (by kernel_rfl) (fun _ _ _ h => h) (Or.inl ⟨by rfl, ?_⟩) (by assumption) ?_
                    rotate_left
                    · intro w hSw; (try dsimp only at hSw); go_simp; try (with_reducible rfl)
                    rotate_left 0
                    try simp only [Act.put, List.setIfInBounds_toArray, List.set_cons_zero, List.set_cons_succ]
                    refine wpAnyH_take (i := 13) (oi := ⟨some 157, _, _, _, _, _⟩) (v := ?_) rfl (by kernel_rfl) (by kernel_rfl) (by kernel_rfl) (fun _ _ _ h => h) (Or.inl ⟨by rfl, ?_⟩) (by assumption) ?_
                    rotate_left
                    · intro w hSw; (try dsimp only at hSw); go_simp; try (with_reducible rfl)
                    rotate_left 0
                    try simp only [Act.put, List.setIfInBounds_toArray, List.set_cons_zero, List.set_cons_succ]
                    refine wpAnyH_take (i := 14) (oi := ⟨some 158, _, _, _, _, _⟩) (v := ?_) rfl (by kernel_rfl) (by kernel_rfl) (by kernel_rfl) (fun _ _ _ h => h) (Or.inl ⟨by rfl, ?_⟩) (by assumption) ?_
                    rotate_left
                    · intro w hSw; (try dsimp only at hSw); go_simp; try (with_reducible rfl)
                    rotate_left 0
                    try simp only [Act.put, List.setIfInBounds_toArray, List.set_cons_zero, List.set_cons_succ]
                    refine wpAnyH_take (i := 15) (oi := ⟨some 159, _, _, _, _, _⟩) (v := (idv x.id)) rfl (by kernel_rfl) (by kernel_rfl) (by kernel_rfl) (fun _ _ _ h => h) (yields_run (by rfl) 24 _ rfl (.pointer (some ⟨Wu.heap.size, 0, none⟩)) _ rfl (fun W' hS => hS.1)) (by assumption) ?_
                    try simp only [Act.put, List.setIfInBounds_toArray, List.set_cons_zero, List.set_cons_succ]
                    refine wpAnyH_take (i := 16) (oi := ⟨some 160, _, _, _, _, _⟩) (v := (.bool true)) rfl (by kernel_rfl) (by kernel_rfl) (by kernel_rfl) (fun _ _ _ h => h) (yields_as (yields_lookupV (by rfl) _ _ 65 rfl 24 4 ki_law Try.underlying65 bool_zero' Mk _ Tk rfl (fun W' hS => hS.2.2) (idv x.id) rfl (ki_some HXO.out.id)) HTKT.out) (by assumption) ?_
                    try simp only [Act.put, List.setIfInBounds_toArray, List.set_cons_zero, List.set_cons_succ]
                    refine wpAnyH_take (i := 17) (oi := ⟨some 161, _, _, _, _, _⟩) (v := ?_) rfl (by kernel_rfl) (by kernel_rfl) (by kernel_rfl) (fun _ _ _ h => h) (Or.inl ⟨by rfl, ?_⟩) (by assumption) ?_
                    rotate_left
                    · intro w hSw; (try dsimp only at hSw); go_simp; try (with_reducible rfl)
                    rotate_left 0
                    try simp only [Act.put, List.setIfInBounds_toArray, List.set_cons_zero, List.set_cons_succ]
                    refine wpAnyH_take (i := 18) (oi := ⟨some 162, _, _, _, _, _⟩) (v := ?_) rfl (by kernel_rfl) (by kernel_rfl) (by kernel_rfl) (fun _ _ _ h => h) (Or.inl ⟨by rfl, ?_⟩) (by assumption) ?_
                    rotate_left
                    · intro w hSw; (try dsimp only at hSw); go_simp; try (with_reducible rfl)
                    rotate_left 0
                    try simp only [Act.put, List.setIfInBounds_toArray, List.set_cons_zero, List.set_cons_succ]
                    refine wpAnyH_done (by kernel_rfl) ?_ _
                    go_wp2_with fail
                    go_roundw
                    case rel =>
                      refine ⟨k + 1, hkl, by go_num, ?_, ?_, hO⟩
                      · rw [take_fold (upO N b) HXK.out, HGK.out]
                        show Value.bool _ = Value.bool (gk.done || decide (x.kind = 4))
                        rw [decide_eq_true HX4.out, Bool.or_true]
                      · rw [take_fold (upO N b) HXK.out, HGK.out]
                        exact (hlk.book (g' := upO N b gk x) (by unfold upO; rw [if_neg (by rw [HX4.out]; omega)]) (by unfold upO; rw [show keyR x = 0 from if_pos HX4.out, show keyN x = 0 from if_pos HX4.out, HX4.out]) rfl).more (by omega)
                    case measure => simp [intOf]; omega
                  · have HX4 := Lib.hid h4
                    have e1 : keyR x = x.round := if_neg h4
                    have e2 : keyN x = x.num := if_neg h4
                    rw [e1, e2] at HSF
                    have h4b : (x.kind == 4) = false := by rw [beq_eq_false_iff_ne]; exact h4
                    clear h4 e1 e2
                    go_upto_region 24 with (guard_target = wpList _ _ _ (Oper.mk _ (.store 53 _ _) _ _ _ _ :: _) _ _; refine wpList_store_three rfl _ _ rfl W8.heap.size (x.kind) x.round x.num rfl rfl 53 _ (Blk.newAt _ _ rfl rfl) rfl ?_; intro Wk hK6 hgk; replace hgk := (grown_of_below ((Below.refl _ W8).alloc (Nat.le_refl _) _) (some W8.heap.size)).trans hgk)
                    clear cr cn ck
                    have ck2 : Wk.cell? ⟨wr.heap.size, 0, none⟩ = some (.int .i64 x.kind) := by rw [(hS8.grown hgk (fun e => by have := hS8.lt; injection e with e; omega)).cell]; rfl
                    have hbn : Below W8.heap.size W8 Wk := below_of_grown hgk (Nat.le_refl _) (Nat.le_refl _)
                    clear hgk
                    replace hlk := hlk.below hbn
                    replace hO := hO.below hbn
                    replace hS8 := hS8.below hbn hS8.lt
                    clear hbn
                    obtain ⟨Ts, hTs, hTv⟩ := hlk.seen
                    have HTV := Lib.hid hTv
                    have HKW := Lib.hid (k3_some (r := x.kind) (k := x.round) (s := x.num) HXO.out.kind HXO.out.round HXO.out.num)
                    clear hTv
                    go_upto_region 29 with (first
                | (guard_target = wpList _ _ _ (Oper.mk _ (.load 53 _) _ _ _ _ :: _) _ _; refine wpList_load_runS (by rfl) 53 _ rfl _ _ rfl (load_three hK6) ?_)
                | (guard_target = wpList _ _ _ (Oper.mk _ (.lookup _ _ _ _) _ _ _ _ :: _) _ _; refine wpList_lookup_V rfl _ _ 52 rfl 53 4 k3_law Try.underlying52 (bool_zero' _) Ms _ Ts rfl hTs (keyV x.kind x.round x.num) rfl HKW.out ?_; rw [HTV.out, if_neg HSF.out]; try dsimp only [Option.getD])
                | (guard_target = wpList _ _ _ (Oper.mk _ (.mapUpdate _ _ _ _) _ _ _ _ :: _) _ _; refine wpList_store_V rfl _ _ _ 52 rfl 53 4 k3_law Try.underlying52 Ms _ Ts rfl hTs (by have := HNB.out; unfold maxLen; omega) (keyV x.kind x.round x.num) (.bool true) rfl rfl HKW.out ?_; intro Wv hmv htv; replace hlk := hlk.see HAP.out (SeenT.put HTV.out hmv) (grown_of_turned htv); replace hO := hO.grown (grown_of_turned htv) HBQ.out.2; replace hS8 := hS8.grown (grown_of_turned htv) HP8.out.2; clear hmv htv hTs))
                    clear ck2
                    have ck3 : Wv.cell? ⟨wr.heap.size, 0, none⟩ = some (.int .i64 x.kind) := by rw [hS8.cell]; rfl
                    by_cases h2 : x.kind = 2
                    · have cr : Wv.cell? ⟨wr.heap.size, 1, none⟩ = some (.int .i64 x.round) := act_round hS8
                      have cn : Wv.cell? ⟨wr.heap.size, 2, none⟩ = some (.int .i64 x.num) := act_num hS8
                      have ca : Wv.cell? ⟨w.heap.size, 1, none⟩ = some (.int .i64 b) := by rw [(HK1.out.below (hlk.base) HK1.out.lt).cell]; rfl
                      have HX2 := Lib.hid h2
                      rw [h2] at ck3
                      clear h2
                      go_upto_region 31 with (first
                | (guard_target = wpList _ _ _ (Oper.mk _ (.load 24 (.tmp 131)) _ _ _ _ :: _) _ _; refine wpList_load_runS (by rfl) 24 _ rfl _ _ rfl (act_id hS8 HXO.out) ?_)
                | (go_at_call 21; refine (put_any hlk.cnt x.round x.num b x.id HXO.out.id HXO.out.round HXO.out.num HWB.out (by have := HNB.out; unfold maxLen; omega)).mono ?_; rintro e Wu ⟨rfl, hcu, hgu⟩; replace hlk := hlk.put HAP.out hcu hgu; replace hO := hO.grown hgu HBQ.out.1; replace hS8 := hS8.grown hgu HP8.out.1; clear hcu hgu))
                      clear ck3 cr cn ca
                      have ck4 : Wu.cell? ⟨wr.heap.size, 0, none⟩ = some (.int .i64 2) := by rw [hS8.cell]; show some (Value.int .i64 x.kind) = _; rw [HX2.out]
                      go_wp2_with fail
                      go_roundw
                      case rel =>
                        refine ⟨k + 1, hkl, by go_num, ?_, ?_, hO⟩
                        · rw [take_fold (upO N b) HXK.out, HGK.out]
                          show Value.bool _ = Value.bool (gk.done || decide (x.kind = 4))
                          rw [HD0.out, decide_eq_false HX4.out]
                          rfl
                        · rw [take_fold (upO N b) HXK.out, HGK.out]
                          exact (hlk.book (g' := upO N b gk x) (by unfold upO; rw [if_pos HX2.out]) (by unfold upO; rw [show keyR x = x.round from if_neg HX4.out, show keyN x = x.num from if_neg HX4.out]) rfl).more (by omega)
                      case measure => simp [intOf]; omega
                    · have h2b : (x.kind == 2) = false := by rw [beq_eq_false_iff_ne]; exact h2
                      have HX2 := Lib.hid h2
                      clear h2
                      go_wp2_with fail
                      go_roundw
                      case rel =>
                        refine ⟨k + 1, hkl, by go_num, ?_, ?_, hO⟩
                        · rw [take_fold (upO N b) HXK.out, HGK.out]
                          show Value.bool _ = Value.bool (gk.done || decide (x.kind = 4))
                          rw [HD0.out, decide_eq_false HX4.out]
                          rfl
                        · rw [take_fold (upO N b) HXK.out, HGK.out]
                          exact (hlk.book (g' := upO N b gk x) (by unfold upO; rw [if_neg HX2.out]) (by unfold upO; rw [show keyR x = x.round from if_neg HX4.out, show keyN x = x.num from if_neg HX4.out]) rfl).more (by omega)
                      case measure => simp [intOf]; omega
                · obtain rfl : k = nl := by omega
                  have hki : ¬ (k : Int) < (k : Int) := by omega
                  have hfull : lg.take k = lg := List.take_of_length_le (by rw [HNL.out]; exact Nat.le_refl _)
                  rw [hfull] at hlk ⊢
                  have HLK := Lib.hid hlk
                  clear hfull hlk hO
                  go_wp2_with fail
                  go_roundw
                  case rel => exact ⟨j + 1, giveS s i, _, n2 + 2 * k, hlt, by go_num, rfl, HLK.out, HQ.out.2, by have := HN2.out; omega⟩
                  case measure => simp [intOf]; omega
          · have hin : inO N b g i = ⟨putT N g.c i.round i.num i.who i.id, g.seen, g.known, g.done⟩ := by
              have e1 := inO_known (N := N) (me := b) (g := g) (i := i) (by omega)
              have e2 : (inO N b g i).c = putT N g.c i.round i.num i.who i.id := if_pos ⟨h3, hwm⟩
              cases g
              unfold inO at *
              simp_all
            have hwb : (i.who == b) = false := by rw [beq_eq_false_iff_ne]; exact hwm
            rw [hin] at HQ
            rw [h3] at ci
            have HI3 := Lib.hid h3
            clear hin h3 hwm
            go_upto_region 18 with (first
    | (guard_target = wpList _ _ _ (Oper.mk _ (.load 24 _) _ _ _ _ :: _) _ _; refine wpList_load_runS (by rfl) 24 _ rfl _ _ rfl HLI.out ?_)
    | (go_at_call 21; refine (put_any hL.cnt i.round i.num i.who i.id HOK.out.id HOK.out.round HOK.out.num HOK.out.who (by have := HN2.out; have := HJL.out; unfold maxLen; omega)).mono ?_; rintro e Wv ⟨rfl, hcv, hgv⟩; replace hL := hL.put HAP.out hcv hgv; have hS9v := HS9.out.grown hgv HP9.out.1; clear hcv hgv))
            have ci2 : Wv.cell? ⟨wr.heap.size, 0, none⟩ = some (.int .i64 3) := by rw [hS9v.cell]; show some (Value.int .i64 i.kind) = _; rw [HI3.out]
            clear ci cw cr cn ca
            go_upto_region 21 with (first
    | (guard_target = wpList _ _ _ (Oper.mk _ (.load 67 _) _ _ _ _ :: _) _ _; refine wpList_load_inn (by rfl) _ rfl ⟨wr.heap.size, 0, none⟩ i rfl (load_inn hS9v HOK.out) ?_)
    | (go_at_call 34; refine (hL.law.give HBM.out (by have := HJL.out; omega) i HOK.out HK6.out).mono ?_; rintro e Wg ⟨vg, rfl, hog, hlg, hkp⟩; rw [HLQ.out] at hog; have hnb : nl ≤ 1000000 := HNL.out ▸ hog.2.1; obtain ⟨Aq, cq, rfl⟩ := hog.sliceN HNL.out))
            as_aux_lemma =>
              have HLG : Hid (OnR W1 B C M N C2 M2 Ms Mk (j + 1) (giveS s i) ((⟨putT N g.c i.round i.num i.who i.id, g.seen, g.known, g.done⟩ : OnG)) (n2 + 1) Wg) := Lib.hid ⟨hlg, hL.cnt.same (hkp C2 (by simp)) (hkp M2 (by simp)), hL.seen.same (hkp Ms (by simp)), hL.known.same (hkp Mk (by simp))⟩
              obtain ⟨bq, hob, hbq⟩ : ∃ bq, OwnA bq Wg (.slice Aq nl cq) lg ∧ (M2 < bq ∧ Ms < bq) := ⟨_, hog, hL.cnt.ltM, hL.seen.lt⟩
              have HOB := Lib.hid hob
              have HBQ := Lib.hid hbq
              obtain ⟨wp, hwp⟩ : ∃ z, z = wr := ⟨_, rfl⟩
              subst hwp
              have HDG : Hid (((⟨putT N g.c i.round i.num i.who i.id, g.seen, g.known, g.done⟩ : OnG)).done = g.done) := Lib.hid rfl
              clear hob hbq hog hlg hkp
              go_loopw [11, 96] (fun s11 s96 wr => ∃ k : Nat, k ≤ nl ∧ s96 = .int .i64 (k : Int) ∧ s11 = .bool ((lg.take k).foldl (upO N b) ((⟨putT N g.c i.round i.num i.who i.id, g.seen, g.known, g.done⟩ : OnG))).done ∧ OnR W1 B C M N C2 M2 Ms Mk (j + 1) (giveS s i) ((lg.take k).foldl (upO N b) ((⟨putT N g.c i.round i.num i.who i.id, g.seen, g.known, g.done⟩ : OnG))) ((n2 + 1) + 2 * k) wr ∧ OwnA bq wr (.slice Aq nl cq) lg) (fun _ s96 _ => nl - (intOf s96).toNat)
              case atStart => exact ⟨0, Nat.zero_le _, rfl, rfl, HLG.out, HOB.out⟩
              case round =>
                obtain ⟨k, hkn, rfl, rfl, hlk, hO⟩ := hrel
                by_cases hkl : k < nl
                · have hki : (k : Int) < (nl : Int) := by omega
                  have hk0 : (0 : Int) ≤ (k : Int) := by omega
                  obtain ⟨x, hxk⟩ : ∃ x, lg[k]? = some x := ⟨_, List.getElem?_eq_getElem (by rw [HNL.out]; exact hkl)⟩
                  obtain ⟨gk, hgk⟩ : ∃ gk, (lg.take k).foldl (upO N b) ((⟨putT N g.c i.round i.num i.who i.id, g.seen, g.known, g.done⟩ : OnG)) = gk := ⟨_, rfl⟩
                  have hok := acts_at HQ.out.1 hxk
                  rw [hgk] at hlk hok ⊢
                  obtain ⟨hsf, hd0, hk4⟩ := hok
                  rw [hd0]
                  have HD0 := Lib.hid hd0
                  have HK4 := Lib.hid hk4
                  have HSF : Hid (¬ gk.seen x.kind (keyR x) (keyN x) = true) := Lib.hid (by rw [hsf]; simp)
                  have HGK := Lib.hid hgk
                  have HXK := Lib.hid hxk
                  obtain ⟨adx, cx, hex, hxo, _, hla⟩ := hO.rd.here hxk
                  rw [HNL.out] at hex
                  obtain ⟨rfl, -, rfl⟩ := Value.slice.inj hex
                  have HLA := Lib.hid hla
                  have HXO := Lib.hid hxo
                  have HNB : Hid ((n2 + 1) + 2 * k + 1 < 1000000000) := Lib.hid (by have := HN2.out; have := HJL.out; omega)
                  have HP8 : Hid (some wr.heap.size ≠ some M2 ∧ some wr.heap.size ≠ some Ms) := Lib.hid ⟨fun e => by have := hlk.cnt.ltM; injection e with e; omega, fun e => by have := hlk.seen.lt; injection e with e; omega⟩
                  clear hxk hex hxo hla hgk hsf hd0 hk4
                  go_upto_region 23 with (first
                | (guard_target = wpList _ _ _ (Oper.mk _ (.load 71 _) _ _ _ _ :: _) _ _; refine wpList_load_runS (by rfl) 71 _ rfl _ _ rfl (HLA.out _ (Below.refl _ _)) ?_)
                | (guard_target = wpList _ _ _ (Oper.mk _ (.store 71 _ _) _ _ _ _ :: _) _ _; refine wpList_store_actL rfl _ _ rfl wr.heap.size x rfl rfl HXO.out 71 _ (Blk.newAt _ _ rfl rfl) rfl ?_; intro W8 hS8 hz8 hb8 hk8; have hbn := (((Below.refl _ wr).alloc (Nat.le_refl _) _).trans hb8); replace hlk := hlk.below hbn; replace hO := hO.below hbn; clear hz8 hb8 hk8 hbn))
                  have cr : W8.cell? ⟨wr.heap.size, 1, none⟩ = some (.int .i64 x.round) := act_round hS8
                  have cn : W8.cell? ⟨wr.heap.size, 2, none⟩ = some (.int .i64 x.num) := act_num hS8
                  have ck : W8.cell? ⟨wr.heap.size, 0, none⟩ = some (.int .i64 x.kind) := by rw [hS8.cell]; rfl
                  by_cases h4 : x.kind = 4
                  · have HX4 := Lib.hid h4
                    have e1 : keyR x = 0 := if_pos h4
                    have e2 : keyN x = 0 := if_pos h4
                    rw [e1, e2, h4] at HSF
                    rw [h4] at ck
                    have HKQ := Lib.hid (HK4.out h4)
                    clear h4 e1 e2
                    go_upto_region 24 with (guard_target = wpList _ _ _ (Oper.mk _ (.store 53 _ _) _ _ _ _ :: _) _ _; refine wpList_store_three rfl _ _ rfl W8.heap.size (4) x.round x.num rfl rfl 53 _ (Blk.newAt _ _ rfl rfl) rfl ?_; intro Wk hK6 hgk; replace hgk := (grown_of_below ((Below.refl _ W8).alloc (Nat.le_refl _) _) (some W8.heap.size)).trans hgk)
                    have ck2 : Wk.cell? ⟨wr.heap.size, 0, none⟩ = some (.int .i64 4) := by rw [(hS8.grown hgk (fun e => by have := hS8.lt; injection e with e; omega)).cell]; show some (Value.int .i64 x.kind) = _; rw [HX4.out]
                    clear cr cn ck
                    go_upto_region 26 with (guard_target = wpList _ _ _ (Oper.mk _ (.store 53 _ _) _ _ _ _ :: _) _ _; refine wpList_store_three rfl _ _ rfl W8.heap.size 4 0 0 rfl rfl 53 _ hK6 rfl ?_; intro Wk2 hK7 hgk2; replace hgk := hgk.trans hgk2; clear hK6; have hK6 := hK7; clear hK7 hgk2)
                    clear ck2
                    have hbn : Below W8.heap.size W8 Wk2 := below_of_grown hgk (Nat.le_refl _) (Nat.le_refl _)
                    clear hgk
                    replace hlk := hlk.below hbn
                    replace hO := hO.below hbn
                    replace hS8 := hS8.below hbn hS8.lt
                    clear hbn
                    obtain ⟨Ts, hTs, hTv⟩ := hlk.seen
                    have HTV := Lib.hid hTv
                    have HKW := Lib.hid (k3_some (r := 4) (k := 0) (s := 0) (wfi_small (by omega) (by omega)) (wfi_small (by omega) (by omega)) (wfi_small (by omega) (by omega)))
                    clear hTv
                    go_upto_region 29 with (first
                | (guard_target = wpList _ _ _ (Oper.mk _ (.load 53 _) _ _ _ _ :: _) _ _; refine wpList_load_runS (by rfl) 53 _ rfl _ _ rfl (load_three hK6) ?_)
                | (guard_target = wpList _ _ _ (Oper.mk _ (.lookup _ _ _ _) _ _ _ _ :: _) _ _; refine wpList_lookup_V rfl _ _ 52 rfl 53 4 k3_law Try.underlying52 (bool_zero' _) Ms _ Ts rfl hTs (keyV 4 0 0) rfl HKW.out ?_; rw [HTV.out, if_neg HSF.out]; try dsimp only [Option.getD])
                | (guard_target = wpList _ _ _ (Oper.mk _ (.mapUpdate _ _ _ _) _ _ _ _ :: _) _ _; refine wpList_store_V rfl _ _ _ 52 rfl 53 4 k3_law Try.underlying52 Ms _ Ts rfl hTs (by have := HNB.out; unfold maxLen; omega) (keyV 4 0 0) (.bool true) rfl rfl HKW.out ?_; intro Wv hmv htv; replace hlk := hlk.see HAP.out (SeenT.put HTV.out hmv) (grown_of_turned htv); replace hO := hO.grown (grown_of_turned htv) HBQ.out.2; replace hS8 := hS8.grown (grown_of_turned htv) HP8.out.2; clear hmv htv hTs))
                    have ck3 : Wv.cell? ⟨wr.heap.size, 0, none⟩ = some (.int .i64 4) := by rw [hS8.cell]; show some (Value.int .i64 x.kind) = _; rw [HX4.out]
                    have cr : Wv.cell? ⟨wr.heap.size, 1, none⟩ = some (.int .i64 x.round) := act_round hS8
                    have HSU := Lib.hid (sure_okS hlk.cnt x.round 1 HXO.out.round (wfi_small (by omega) (by omega)) HN1000.out HKQ.out.1)
                    go_upto_region 34 with (first
                | (go_at_call 22; refine HSU.out.mono ?_; rintro e Wu ⟨rfl, hbn⟩; replace hlk := hlk.below hbn; replace hO := hO.below hbn; replace hS8 := hS8.below hbn hS8.lt; clear hbn)
                | (guard_target = wpList _ _ _ (Oper.mk _ (.store 24 _ _) _ _ _ _ :: _) _ _; refine wpList_store_idv rfl _ _ rfl Wu.heap.size x.id rfl rfl HXO.out.id 24 _ (Blk.newAt _ _ rfl rfl) rfl ?_; intro W7 hS7 hz7 hb7 hk7; have hbn := (((Below.refl _ Wu).alloc (Nat.le_refl _) _).trans hb7); replace hlk := hlk.below hbn; replace hO := hO.below hbn; replace hS8 := hS8.below hbn hS8.lt; clear hbn; clear hz7 hb7 hk7))
                    clear ck3 cr
                    obtain ⟨Tk, hTk, hTkv⟩ := hlk.known
                    have HTKV := Lib.hid hTkv
                    have HTKT : Hid ((Tk (idv x.id)).getD (.bool false) = .bool true) := Lib.hid (by rw [hTkv x.id HXO.out.id]; rw [if_pos HKQ.out.2.2.1]; rfl)
                    clear hTkv
                    replace hTk := hTk.same (w' := World.drew _) rfl
                    replace hS7 := hS7.drew
                    replace hlk := hlk.below (Below.refl _ _).drew
                    replace hO := hO.drew
                    replace hS8 := hS8.drew
                    refine wp_region_held_drew (S := fun W' => (Instr.loadAt 24 (.pointer (some ⟨Wu.heap.size, 0, none⟩))).run Try.prog W' = .ok (idv x.id) W' ∧ (Instr.loadAt 24 (.pointer (some ⟨wr.heap.size, 4, none⟩))).run Try.prog W' = .ok (idv x.id) W' ∧ MapV Try.prog 24 W' Mk ((n2 + 1) + 2 * k + 1) Tk) (by kernel_rfl) ?_ (fun hHeld => ?_)
                    · exact ⟨run_loadVar_idv HXO.out.id hS7, act_id hS8 HXO.out, hTk⟩
                    refine wpAnyH_take (i := 0) (oi := ⟨some 144, _, _, _, _, _⟩) (v := ?_) rfl (by kernel_rfl) (by kernel_rfl) (by kernel_rfl) (fun _ _ _ h => h) (Or.inl ⟨by rfl, ?_⟩) (by assumption) ?_
                    rotate_left
                    · intro w hSw; (try dsimp only at hSw); go_simp; try (with_reducible rfl)
                    rotate_left 0
                    try simp only [Act.put, List.setIfInBounds_toArray, List.set_cons_zero, List.set_cons_succ]
                    refine wpAnyH_take (i := 1) (oi := ⟨some 145, _, _, _, _, _⟩) (v := ?_) rfl (by kernel_rfl) (by kernel_rfl) (by kernel_rfl) (fun _ _ _ h => h) (Or.inl ⟨by rfl, ?_⟩) (by assumption) ?_
                    rotate_left
                    · intro w hSw; (try dsimp only at hSw); go_simp; try (with_reducible rfl)
                    rotate_left 0
                    try simp only [Act.put, List.setIfInBounds_toArray, List.set_cons_zero, List.set_cons_succ]
                    refine wpAnyH_take (i := 2) (oi := ⟨some 146, _, _, _, _, _⟩) (v := ?_) rfl (by kernel_rfl) (by kernel_rfl) (by kernel_rfl) (fun _ _ _ h => h) (Or.inl ⟨by rfl, ?_⟩) (by assumption) ?_
                    rotate_left
                    · intro w hSw; (try dsimp only at hSw); go_simp; try (with_reducible rfl)
                    rotate_left 0
                    try simp only [Act.put, List.setIfInBounds_toArray, List.set_cons_zero, List.set_cons_succ]
                    refine wpAnyH_take (i := 3) (oi := ⟨some 147, _, _, _, _, _⟩) (v := (idv x.id)) rfl (by kernel_rfl) (by kernel_rfl) (by kernel_rfl) (fun _ _ _ h => h) (yields_run (by rfl) 24 _ rfl (.pointer (some ⟨Wu.heap.size, 0, none⟩)) _ rfl (fun W' hS => hS.1)) (by assumption) ?_
                    try simp only [Act.put, List.setIfInBounds_toArray, List.set_cons_zero, List.set_cons_succ]
                    refine wpAnyH_take (i := 4) (oi := ⟨some 148, _, _, _, _, _⟩) (v := ?_) rfl (by kernel_rfl) (by kernel_rfl) (by kernel_rfl) (fun _ _ _ h => h) (Or.inl ⟨by rfl, ?_⟩) (by assumption) ?_
                    rotate_left
                    · intro w hSw; (try dsimp only at hSw); go_simp; try (with_reducible rfl)
                    rotate_left 0
                    try simp only [Act.put, List.setIfInBounds_toArray, List.set_cons_zero, List.set_cons_succ]
                    refine wpAnyH_take (i := 5) (oi := ⟨some 149, _, _, _, _, _⟩) (v := (idv x.id)) rfl (by kernel_rfl) (by kernel_rfl) (by kernel_rfl) (fun _ _ _ h => h) (yields_run (by rfl) 24 _ rfl (.pointer (some ⟨wr.heap.size, 4, none⟩)) _ rfl (fun W' hS => hS.2.1)) (by assumption) ?_
                    try simp only [Act.put, List.setIfInBounds_toArray, List.set_cons_zero, List.set_cons_succ]
                    refine wpAnyH_take (i := 6) (oi := ⟨some 150, _, _, _, _, _⟩) (v := (.bool false)) rfl (by kernel_rfl) (by kernel_rfl) (by kernel_rfl) (fun _ _ _ h => h) (yields_as (yields_neI (by rfl) _ _ rfl x.id x.id rfl rfl HXO.out.id HXO.out.id) (by simp)) (by assumption) ?_
                    try simp only [Act.put, List.setIfInBounds_toArray, List.set_cons_zero, List.set_cons_succ]
                    refine wpAnyH_take (i := 7) (oi := ⟨some 151, _, _, _, _, _⟩) (v := ?_) rfl (by kernel_rfl) (by kernel_rfl) (by kernel_rfl) (fun _ _ _ h => h) (Or.inl ⟨by rfl, ?_⟩) (by assumption) ?_
                    rotate_left
                    · intro w hSw; (try dsimp only at hSw); go_simp; try (with_reducible rfl)
                    rotate_left 0
                    try simp only [Act.put, List.setIfInBounds_toArray, List.set_cons_zero, List.set_cons_succ]
                    refine wpAnyH_take (i := 8) (oi := ⟨some 152, _, _, _, _, _⟩) (v := ?_) rfl (by kernel_rfl) (by kernel_rfl) (by kernel_rfl) (fun _ _ _ h => h) (Or.inl ⟨by rfl, ?_⟩) (by assumption) ?_
                    rotate_left
                    · intro w hSw; (try dsimp only at hSw); go_simp; try (with_reducible rfl)
                    rotate_left 0
                    try simp only [Act.put, List.setIfInBounds_toArray, List.set_cons_zero, List.set_cons_succ]
                    refine wpAnyH_take (i := 9) (oi := ⟨some 153, _, _, _, _, _⟩) (v := (idv x.id)) rfl (by kernel_rfl) (by kernel_rfl) (by kernel_rfl) (fun _ _ _ h => h) (yields_run (by rfl) 24 _ rfl (.pointer (some ⟨Wu.heap.size, 0, none⟩)) _ rfl (fun W' hS => hS.1)) (by assumption) ?_
                    try simp only [Act.put, List.setIfInBounds_toArray, List.set_cons_zero, List.set_cons_succ]
                    refine wpAnyH_ready (rs := [10]) (by kernel_rfl) (by simp) ?_
                    refine (AllReadyH.cons (o := ⟨some 154, _, _, _, _, _⟩) rfl (fun K hK => ?_) AllReadyH.nil)
                    (try rw [if_pos (by rfl)])
                    go_simp
                    refine (nil_any _).mono ?_
                    rintro e Wn ⟨rfl, hbn⟩
                    replace hTk := hTk.same (hbn.block _ hTk.lt)
                    replace hS7 := hS7.below hbn hS7.lt
                    replace hlk := hlk.below hbn
                    replace hO := hO.below hbn
                    replace hS8 := hS8.below hbn hS8.lt
                    clear hbn
                    try dsimp only
                    refine hK.out _ _ (⟨run_loadVar_idv HXO.out.id hS7, act_id hS8 HXO.out, hTk⟩) (fun hHeld => ?_)
                    clear hK K
                    try simp only [Act.put, List.setIfInBounds_toArray, List.set_cons_zero, List.set_cons_succ]
                    refine wpAnyH_take (i := 11) (oi := ⟨some 155, _, _, _, _, _⟩) (v := (.bool false)) rfl (by kernel_rfl) (by kernel_rfl) (by kernel_rfl) (fun _ _ _ h => h) (yields_as (yields_eqI (by rfl) _ _ rfl x.id nilId rfl rfl HXO.out.id nilId_ok) (by have := HKQ.out.2.1; simpa using this)) (by assumption) ?_
                    try simp only [Act.put, List.setIfInBounds_toArray, List.set_cons_zero, List.set_cons_succ]
                    refine wpAnyH_take (i := 12) (oi := ⟨some 156, _, _, _, _, _⟩) (v := ?_) rfl (by kernel_rfl) (by kernel_rfl) (by kernel_rfl) (fun _ _ _ h => h) (Or.inl ⟨by rfl, ?_⟩) (by assumption) ?_
                    rotate_left
                    · intro w hSw; (try dsimp only at hSw); go_simp; try (with_reducible rfl)
                    rotate_left 0
                    try simp only [Act.put, List.setIfInBounds_toArray, List.set_cons_zero, List.set_cons_succ]
                    refine wpAnyH_take (i := 13) (oi := ⟨some 157, _, _, _, _, _⟩) (v := ?_) rfl (by kernel_rfl) (by kernel_rfl) (by kernel_rfl) (fun _ _ _ h => h) (Or.inl ⟨by rfl, ?_⟩) (by assumption) ?_
                    rotate_left
                    · intro w hSw; (try dsimp only at hSw); go_simp; try (with_reducible rfl)
                    rotate_left 0
                    try simp only [Act.put, List.setIfInBounds_toArray, List.set_cons_zero, List.set_cons_succ]
                    refine wpAnyH_take (i := 14) (oi := ⟨some 158, _, _, _, _, _⟩) (v := ?_) rfl (by kernel_rfl) (by kernel_rfl) (by kernel_rfl) (fun _ _ _ h => h) (Or.inl ⟨by rfl, ?_⟩) (by assumption) ?_
                    rotate_left
                    · intro w hSw; (try dsimp only at hSw); go_simp; try (with_reducible rfl)
                    rotate_left 0
                    try simp only [Act.put, List.setIfInBounds_toArray, List.set_cons_zero, List.set_cons_succ]
                    refine wpAnyH_take (i := 15) (oi := ⟨some 159, _, _, _, _, _⟩) (v := (idv x.id)) rfl (by kernel_rfl) (by kernel_rfl) (by kernel_rfl) (fun _ _ _ h => h) (yields_run (by rfl) 24 _ rfl (.pointer (some ⟨Wu.heap.size, 0, none⟩)) _ rfl (fun W' hS => hS.1)) (by assumption) ?_
                    try simp only [Act.put, List.setIfInBounds_toArray, List.set_cons_zero, List.set_cons_succ]
                    refine wpAnyH_take (i := 16) (oi := ⟨some 160, _, _, _, _, _⟩) (v := (.bool true)) rfl (by kernel_rfl) (by kernel_rfl) (by kernel_rfl) (fun _ _ _ h => h) (yields_as (yields_lookupV (by rfl) _ _ 65 rfl 24 4 ki_law Try.underlying65 bool_zero' Mk _ Tk rfl (fun W' hS => hS.2.2) (idv x.id) rfl (ki_some HXO.out.id)) HTKT.out) (by assumption) ?_
                    try simp only [Act.put, List.setIfInBounds_toArray, List.set_cons_zero, List.set_cons_succ]
                    refine wpAnyH_take (i := 17) (oi := ⟨some 161, _, _, _, _, _⟩) (v := ?_) rfl (by kernel_rfl) (by kernel_rfl) (by kernel_rfl) (fun _ _ _ h => h) (Or.inl ⟨by rfl, ?_⟩) (by assumption) ?_
                    rotate_left
                    · intro w hSw; (try dsimp only at hSw); go_simp; try (with_reducible rfl)
                    rotate_left 0
                    try simp only [Act.put, List.setIfInBounds_toArray, List.set_cons_zero, List.set_cons_succ]
                    refine wpAnyH_take (i := 18) (oi := ⟨some 162, _, _, _, _, _⟩) (v := ?_) rfl (by kernel_rfl) (by kernel_rfl) (by kernel_rfl) (fun _ _ _ h => h) (Or.inl ⟨by rfl, ?_⟩) (by assumption) ?_
                    rotate_left
                    · intro w hSw; (try dsimp only at hSw); go_simp; try (with_reducible rfl)
                    rotate_left 0
                    try simp only [Act.put, List.setIfInBounds_toArray, List.set_cons_zero, List.set_cons_succ]
                    refine wpAnyH_done (by kernel_rfl) ?_ _
                    go_wp2_with fail
                    go_roundw
                    case rel =>
                      refine ⟨k + 1, hkl, by go_num, ?_, ?_, hO⟩
                      · rw [take_fold (upO N b) HXK.out, HGK.out]
                        show Value.bool _ = Value.bool (gk.done || decide (x.kind = 4))
                        rw [decide_eq_true HX4.out, Bool.or_true]
                      · rw [take_fold (upO N b) HXK.out, HGK.out]
                        exact (hlk.book (g' := upO N b gk x) (by unfold upO; rw [if_neg (by rw [HX4.out]; omega)]) (by unfold upO; rw [show keyR x = 0 from if_pos HX4.out, show keyN x = 0 from if_pos HX4.out, HX4.out]) rfl).more (by omega)
                    case measure => simp [intOf]; omega
                  · have HX4 := Lib.hid h4
                    have e1 : keyR x = x.round := if_neg h4
                    have e2 : keyN x = x.num := if_neg h4
                    rw [e1, e2] at HSF
                    have h4b : (x.kind == 4) = false := by rw [beq_eq_false_iff_ne]; exact h4
                    clear h4 e1 e2
                    go_upto_region 24 with (guard_target = wpList _ _ _ (Oper.mk _ (.store 53 _ _) _ _ _ _ :: _) _ _; refine wpList_store_three rfl _ _ rfl W8.heap.size (x.kind) x.round x.num rfl rfl 53 _ (Blk.newAt _ _ rfl rfl) rfl ?_; intro Wk hK6 hgk; replace hgk := (grown_of_below ((Below.refl _ W8).alloc (Nat.le_refl _) _) (some W8.heap.size)).trans hgk)
                    clear cr cn ck
                    have ck2 : Wk.cell? ⟨wr.heap.size, 0, none⟩ = some (.int .i64 x.kind) := by rw [(hS8.grown hgk (fun e => by have := hS8.lt; injection e with e; omega)).cell]; rfl
                    have hbn : Below W8.heap.size W8 Wk := below_of_grown hgk (Nat.le_refl _) (Nat.le_refl _)
                    clear hgk
                    replace hlk := hlk.below hbn
                    replace hO := hO.below hbn
                    replace hS8 := hS8.below hbn hS8.lt
                    clear hbn
                    obtain ⟨Ts, hTs, hTv⟩ := hlk.seen
                    have HTV := Lib.hid hTv
                    have HKW := Lib.hid (k3_some (r := x.kind) (k := x.round) (s := x.num) HXO.out.kind HXO.out.round HXO.out.num)
                    clear hTv
                    go_upto_region 29 with (first
                | (guard_target = wpList _ _ _ (Oper.mk _ (.load 53 _) _ _ _ _ :: _) _ _; refine wpList_load_runS (by rfl) 53 _ rfl _ _ rfl (load_three hK6) ?_)
                | (guard_target = wpList _ _ _ (Oper.mk _ (.lookup _ _ _ _) _ _ _ _ :: _) _ _; refine wpList_lookup_V rfl _ _ 52 rfl 53 4 k3_law Try.underlying52 (bool_zero' _) Ms _ Ts rfl hTs (keyV x.kind x.round x.num) rfl HKW.out ?_; rw [HTV.out, if_neg HSF.out]; try dsimp only [Option.getD])
                | (guard_target = wpList _ _ _ (Oper.mk _ (.mapUpdate _ _ _ _) _ _ _ _ :: _) _ _; refine wpList_store_V rfl _ _ _ 52 rfl 53 4 k3_law Try.underlying52 Ms _ Ts rfl hTs (by have := HNB.out; unfold maxLen; omega) (keyV x.kind x.round x.num) (.bool true) rfl rfl HKW.out ?_; intro Wv hmv htv; replace hlk := hlk.see HAP.out (SeenT.put HTV.out hmv) (grown_of_turned htv); replace hO := hO.grown (grown_of_turned htv) HBQ.out.2; replace hS8 := hS8.grown (grown_of_turned htv) HP8.out.2; clear hmv htv hTs))
                    clear ck2
                    have ck3 : Wv.cell? ⟨wr.heap.size, 0, none⟩ = some (.int .i64 x.kind) := by rw [hS8.cell]; rfl
                    by_cases h2 : x.kind = 2
                    · have cr : Wv.cell? ⟨wr.heap.size, 1, none⟩ = some (.int .i64 x.round) := act_round hS8
                      have cn : Wv.cell? ⟨wr.heap.size, 2, none⟩ = some (.int .i64 x.num) := act_num hS8
                      have ca : Wv.cell? ⟨w.heap.size, 1, none⟩ = some (.int .i64 b) := by rw [(HK1.out.below (hlk.base) HK1.out.lt).cell]; rfl
                      have HX2 := Lib.hid h2
                      rw [h2] at ck3
                      clear h2
                      go_upto_region 31 with (first
                | (guard_target = wpList _ _ _ (Oper.mk _ (.load 24 (.tmp 131)) _ _ _ _ :: _) _ _; refine wpList_load_runS (by rfl) 24 _ rfl _ _ rfl (act_id hS8 HXO.out) ?_)
                | (go_at_call 21; refine (put_any hlk.cnt x.round x.num b x.id HXO.out.id HXO.out.round HXO.out.num HWB.out (by have := HNB.out; unfold maxLen; omega)).mono ?_; rintro e Wu ⟨rfl, hcu, hgu⟩; replace hlk := hlk.put HAP.out hcu hgu; replace hO := hO.grown hgu HBQ.out.1; replace hS8 := hS8.grown hgu HP8.out.1; clear hcu hgu))
                      clear ck3 cr cn ca
                      have ck4 : Wu.cell? ⟨wr.heap.size, 0, none⟩ = some (.int .i64 2) := by rw [hS8.cell]; show some (Value.int .i64 x.kind) = _; rw [HX2.out]
                      go_wp2_with fail
                      go_roundw
                      case rel =>
                        refine ⟨k + 1, hkl, by go_num, ?_, ?_, hO⟩
                        · rw [take_fold (upO N b) HXK.out, HGK.out]
                          show Value.bool _ = Value.bool (gk.done || decide (x.kind = 4))
                          rw [HD0.out, decide_eq_false HX4.out]
                          rfl
                        · rw [take_fold (upO N b) HXK.out, HGK.out]
                          exact (hlk.book (g' := upO N b gk x) (by unfold upO; rw [if_pos HX2.out]) (by unfold upO; rw [show keyR x = x.round from if_neg HX4.out, show keyN x = x.num from if_neg HX4.out]) rfl).more (by omega)
                      case measure => simp [intOf]; omega
                    · have h2b : (x.kind == 2) = false := by rw [beq_eq_false_iff_ne]; exact h2
                      have HX2 := Lib.hid h2
                      clear h2
                      go_wp2_with fail
                      go_roundw
                      case rel =>
                        refine ⟨k + 1, hkl, by go_num, ?_, ?_, hO⟩
                        · rw [take_fold (upO N b) HXK.out, HGK.out]
                          show Value.bool _ = Value.bool (gk.done || decide (x.kind = 4))
                          rw [HD0.out, decide_eq_false HX4.out]
                          rfl
                        · rw [take_fold (upO N b) HXK.out, HGK.out]
                          exact (hlk.book (g' := upO N b gk x) (by unfold upO; rw [if_neg HX2.out]) (by unfold upO; rw [show keyR x = x.round from if_neg HX4.out, show keyN x = x.num from if_neg HX4.out]) rfl).more (by omega)
                      case measure => simp [intOf]; omega
                · obtain rfl : k = nl := by omega
                  have hki : ¬ (k : Int) < (k : Int) := by omega
                  have hfull : lg.take k = lg := List.take_of_length_le (by rw [HNL.out]; exact Nat.le_refl _)
                  rw [hfull] at hlk ⊢
                  have HLK := Lib.hid hlk
                  clear hfull hlk hO
                  go_wp2_with fail
                  go_roundw
                  case rel => exact ⟨j + 1, giveS s i, _, (n2 + 1) + 2 * k, hlt, by go_num, rfl, HLK.out, HQ.out.2, by have := HN2.out; omega⟩
                  case measure => simp [intOf]; omega
        · have h3b : (i.kind == 3) = false := by rw [beq_eq_false_iff_ne]; exact h3
          by_cases h1 : i.kind = 1
          · have hin : inO N b g i = ⟨g.c, g.seen, fun x => g.known x || (x == i.id), g.done⟩ := by
              have e2 := inO_c (N := N) (me := b) (g := g) (i := i) (fun q => h3 q.1)
              cases g
              unfold inO at *
              simp_all
            rw [hin] at HQ
            rw [h1] at ci
            clear hin h3 h1
            go_upto_region 20 with (first
    | (guard_target = wpList _ _ _ (Oper.mk _ (.load 24 _) _ _ _ _ :: _) _ _; refine wpList_load_runS (by rfl) 24 _ rfl _ _ rfl HLI.out ?_)
    | (guard_target = wpList _ _ _ (Oper.mk _ (.mapUpdate _ _ _ _) _ _ _ _ :: _) _ _; obtain ⟨Tk, hTk, hTv⟩ := hL.known; refine wpList_store_V rfl _ _ _ 65 rfl 24 4 ki_law Try.underlying65 Mk n2 Tk rfl hTk (by have := HN2.out; have := HJL.out; unfold maxLen; omega) (idv i.id) (.bool true) rfl rfl (ki_some HOK.out.id) ?_; intro Wv hmv htv; replace hL := hL.know HAP.out (KnownT.put hTv hmv) (grown_of_turned htv); have hS9v := HS9.out.grown (grown_of_turned htv) HP9.out.2; clear hmv htv hTk hTv))
            clear ci cw cr cn ca
            go_upto_region 21 with (first
    | (guard_target = wpList _ _ _ (Oper.mk _ (.load 67 _) _ _ _ _ :: _) _ _; refine wpList_load_inn (by rfl) _ rfl ⟨wr.heap.size, 0, none⟩ i rfl (load_inn hS9v HOK.out) ?_)
    | (go_at_call 34; refine (hL.law.give HBM.out (by have := HJL.out; omega) i HOK.out HK6.out).mono ?_; rintro e Wg ⟨vg, rfl, hog, hlg, hkp⟩; rw [HLQ.out] at hog; have hnb : nl ≤ 1000000 := HNL.out ▸ hog.2.1; obtain ⟨Aq, cq, rfl⟩ := hog.sliceN HNL.out))
            as_aux_lemma =>
              have HLG : Hid (OnR W1 B C M N C2 M2 Ms Mk (j + 1) (giveS s i) ((⟨g.c, g.seen, fun x => g.known x || (x == i.id), g.done⟩ : OnG)) (n2 + 1) Wg) := Lib.hid ⟨hlg, hL.cnt.same (hkp C2 (by simp)) (hkp M2 (by simp)), hL.seen.same (hkp Ms (by simp)), hL.known.same (hkp Mk (by simp))⟩
              obtain ⟨bq, hob, hbq⟩ : ∃ bq, OwnA bq Wg (.slice Aq nl cq) lg ∧ (M2 < bq ∧ Ms < bq) := ⟨_, hog, hL.cnt.ltM, hL.seen.lt⟩
              have HOB := Lib.hid hob
              have HBQ := Lib.hid hbq
              obtain ⟨wp, hwp⟩ : ∃ z, z = wr := ⟨_, rfl⟩
              subst hwp
              have HDG : Hid (((⟨g.c, g.seen, fun x => g.known x || (x == i.id), g.done⟩ : OnG)).done = g.done) := Lib.hid rfl
              clear hob hbq hog hlg hkp
              go_loopw [11, 96] (fun s11 s96 wr => ∃ k : Nat, k ≤ nl ∧ s96 = .int .i64 (k : Int) ∧ s11 = .bool ((lg.take k).foldl (upO N b) ((⟨g.c, g.seen, fun x => g.known x || (x == i.id), g.done⟩ : OnG))).done ∧ OnR W1 B C M N C2 M2 Ms Mk (j + 1) (giveS s i) ((lg.take k).foldl (upO N b) ((⟨g.c, g.seen, fun x => g.known x || (x == i.id), g.done⟩ : OnG))) ((n2 + 1) + 2 * k) wr ∧ OwnA bq wr (.slice Aq nl cq) lg) (fun _ s96 _ => nl - (intOf s96).toNat)
              case atStart => exact ⟨0, Nat.zero_le _, rfl, rfl, HLG.out, HOB.out⟩
              case round =>
                obtain ⟨k, hkn, rfl, rfl, hlk, hO⟩ := hrel
                by_cases hkl : k < nl
                · have hki : (k : Int) < (nl : Int) := by omega
                  have hk0 : (0 : Int) ≤ (k : Int) := by omega
                  obtain ⟨x, hxk⟩ : ∃ x, lg[k]? = some x := ⟨_, List.getElem?_eq_getElem (by rw [HNL.out]; exact hkl)⟩
                  obtain ⟨gk, hgk⟩ : ∃ gk, (lg.take k).foldl (upO N b) ((⟨g.c, g.seen, fun x => g.known x || (x == i.id), g.done⟩ : OnG)) = gk := ⟨_, rfl⟩
                  have hok := acts_at HQ.out.1 hxk
                  rw [hgk] at hlk hok ⊢
                  obtain ⟨hsf, hd0, hk4⟩ := hok
                  rw [hd0]
                  have HD0 := Lib.hid hd0
                  have HK4 := Lib.hid hk4
                  have HSF : Hid (¬ gk.seen x.kind (keyR x) (keyN x) = true) := Lib.hid (by rw [hsf]; simp)
                  have HGK := Lib.hid hgk
                  have HXK := Lib.hid hxk
                  obtain ⟨adx, cx, hex, hxo, _, hla⟩ := hO.rd.here hxk
                  rw [HNL.out] at hex
                  obtain ⟨rfl, -, rfl⟩ := Value.slice.inj hex
                  have HLA := Lib.hid hla
                  have HXO := Lib.hid hxo
                  have HNB : Hid ((n2 + 1) + 2 * k + 1 < 1000000000) := Lib.hid (by have := HN2.out; have := HJL.out; omega)
                  have HP8 : Hid (some wr.heap.size ≠ some M2 ∧ some wr.heap.size ≠ some Ms) := Lib.hid ⟨fun e => by have := hlk.cnt.ltM; injection e with e; omega, fun e => by have := hlk.seen.lt; injection e with e; omega⟩
                  clear hxk hex hxo hla hgk hsf hd0 hk4
                  go_upto_region 23 with (first
                | (guard_target = wpList _ _ _ (Oper.mk _ (.load 71 _) _ _ _ _ :: _) _ _; refine wpList_load_runS (by rfl) 71 _ rfl _ _ rfl (HLA.out _ (Below.refl _ _)) ?_)
                | (guard_target = wpList _ _ _ (Oper.mk _ (.store 71 _ _) _ _ _ _ :: _) _ _; refine wpList_store_actL rfl _ _ rfl wr.heap.size x rfl rfl HXO.out 71 _ (Blk.newAt _ _ rfl rfl) rfl ?_; intro W8 hS8 hz8 hb8 hk8; have hbn := (((Below.refl _ wr).alloc (Nat.le_refl _) _).trans hb8); replace hlk := hlk.below hbn; replace hO := hO.below hbn; clear hz8 hb8 hk8 hbn))
                  have cr : W8.cell? ⟨wr.heap.size, 1, none⟩ = some (.int .i64 x.round) := act_round hS8
                  have cn : W8.cell? ⟨wr.heap.size, 2, none⟩ = some (.int .i64 x.num) := act_num hS8
                  have ck : W8.cell? ⟨wr.heap.size, 0, none⟩ = some (.int .i64 x.kind) := by rw [hS8.cell]; rfl
                  by_cases h4 : x.kind = 4
                  · have HX4 := Lib.hid h4
                    have e1 : keyR x = 0 := if_pos h4
                    have e2 : keyN x = 0 := if_pos h4
                    rw [e1, e2, h4] at HSF
                    rw [h4] at ck
                    have HKQ := Lib.hid (HK4.out h4)
                    clear h4 e1 e2
                    go_upto_region 24 with (guard_target = wpList _ _ _ (Oper.mk _ (.store 53 _ _) _ _ _ _ :: _) _ _; refine wpList_store_three rfl _ _ rfl W8.heap.size (4) x.round x.num rfl rfl 53 _ (Blk.newAt _ _ rfl rfl) rfl ?_; intro Wk hK6 hgk; replace hgk := (grown_of_below ((Below.refl _ W8).alloc (Nat.le_refl _) _) (some W8.heap.size)).trans hgk)
                    have ck2 : Wk.cell? ⟨wr.heap.size, 0, none⟩ = some (.int .i64 4) := by rw [(hS8.grown hgk (fun e => by have := hS8.lt; injection e with e; omega)).cell]; show some (Value.int .i64 x.kind) = _; rw [HX4.out]
                    clear cr cn ck
                    go_upto_region 26 with (guard_target = wpList _ _ _ (Oper.mk _ (.store 53 _ _) _ _ _ _ :: _) _ _; refine wpList_store_three rfl _ _ rfl W8.heap.size 4 0 0 rfl rfl 53 _ hK6 rfl ?_; intro Wk2 hK7 hgk2; replace hgk := hgk.trans hgk2; clear hK6; have hK6 := hK7; clear hK7 hgk2)
                    clear ck2
                    have hbn : Below W8.heap.size W8 Wk2 := below_of_grown hgk (Nat.le_refl _) (Nat.le_refl _)
                    clear hgk
                    replace hlk := hlk.below hbn
                    replace hO := hO.below hbn
                    replace hS8 := hS8.below hbn hS8.lt
                    clear hbn
                    obtain ⟨Ts, hTs, hTv⟩ := hlk.seen
                    have HTV := Lib.hid hTv
                    have HKW := Lib.hid (k3_some (r := 4) (k := 0) (s := 0) (wfi_small (by omega) (by omega)) (wfi_small (by omega) (by omega)) (wfi_small (by omega) (by omega)))
                    clear hTv
                    go_upto_region 29 with (first
                | (guard_target = wpList _ _ _ (Oper.mk _ (.load 53 _) _ _ _ _ :: _) _ _; refine wpList_load_runS (by rfl) 53 _ rfl _ _ rfl (load_three hK6) ?_)
                | (guard_target = wpList _ _ _ (Oper.mk _ (.lookup _ _ _ _) _ _ _ _ :: _) _ _; refine wpList_lookup_V rfl _ _ 52 rfl 53 4 k3_law Try.underlying52 (bool_zero' _) Ms _ Ts rfl hTs (keyV 4 0 0) rfl HKW.out ?_; rw [HTV.out, if_neg HSF.out]; try dsimp only [Option.getD])
                | (guard_target = wpList _ _ _ (Oper.mk _ (.mapUpdate _ _ _ _) _ _ _ _ :: _) _ _; refine wpList_store_V rfl _ _ _ 52 rfl 53 4 k3_law Try.underlying52 Ms _ Ts rfl hTs (by have := HNB.out; unfold maxLen; omega) (keyV 4 0 0) (.bool true) rfl rfl HKW.out ?_; intro Wv hmv htv; replace hlk := hlk.see HAP.out (SeenT.put HTV.out hmv) (grown_of_turned htv); replace hO := hO.grown (grown_of_turned htv) HBQ.out.2; replace hS8 := hS8.grown (grown_of_turned htv) HP8.out.2; clear hmv htv hTs))
                    have ck3 : Wv.cell? ⟨wr.heap.size, 0, none⟩ = some (.int .i64 4) := by rw [hS8.cell]; show some (Value.int .i64 x.kind) = _; rw [HX4.out]
                    have cr : Wv.cell? ⟨wr.heap.size, 1, none⟩ = some (.int .i64 x.round) := act_round hS8
                    have HSU := Lib.hid (sure_okS hlk.cnt x.round 1 HXO.out.round (wfi_small (by omega) (by omega)) HN1000.out HKQ.out.1)
                    go_upto_region 34 with (first
                | (go_at_call 22; refine HSU.out.mono ?_; rintro e Wu ⟨rfl, hbn⟩; replace hlk := hlk.below hbn; replace hO := hO.below hbn; replace hS8 := hS8.below hbn hS8.lt; clear hbn)
                | (guard_target = wpList _ _ _ (Oper.mk _ (.store 24 _ _) _ _ _ _ :: _) _ _; refine wpList_store_idv rfl _ _ rfl Wu.heap.size x.id rfl rfl HXO.out.id 24 _ (Blk.newAt _ _ rfl rfl) rfl ?_; intro W7 hS7 hz7 hb7 hk7; have hbn := (((Below.refl _ Wu).alloc (Nat.le_refl _) _).trans hb7); replace hlk := hlk.below hbn; replace hO := hO.below hbn; replace hS8 := hS8.below hbn hS8.lt; clear hbn; clear hz7 hb7 hk7))
                    clear ck3 cr
                    obtain ⟨Tk, hTk, hTkv⟩ := hlk.known
                    have HTKV := Lib.hid hTkv
                    have HTKT : Hid ((Tk (idv x.id)).getD (.bool false) = .bool true) := Lib.hid (by rw [hTkv x.id HXO.out.id]; rw [if_pos HKQ.out.2.2.1]; rfl)
                    clear hTkv
                    replace hTk := hTk.same (w' := World.drew _) rfl
                    replace hS7 := hS7.drew
                    replace hlk := hlk.below (Below.refl _ _).drew
                    replace hO := hO.drew
                    replace hS8 := hS8.drew
                    refine wp_region_held_drew (S := fun W' => (Instr.loadAt 24 (.pointer (some ⟨Wu.heap.size, 0, none⟩))).run Try.prog W' = .ok (idv x.id) W' ∧ (Instr.loadAt 24 (.pointer (some ⟨wr.heap.size, 4, none⟩))).run Try.prog W' = .ok (idv x.id) W' ∧ MapV Try.prog 24 W' Mk ((n2 + 1) + 2 * k + 1) Tk) (by kernel_rfl) ?_ (fun hHeld => ?_)
                    · exact ⟨run_loadVar_idv HXO.out.id hS7, act_id hS8 HXO.out, hTk⟩
                    refine wpAnyH_take (i := 0) (oi := ⟨some 144, _, _, _, _, _⟩) (v := ?_) rfl (by kernel_rfl) (by kernel_rfl) (by kernel_rfl) (fun _ _ _ h => h) (Or.inl ⟨by rfl, ?_⟩) (by assumption) ?_
                    rotate_left
                    · intro w hSw; (try dsimp only at hSw); go_simp; try (with_reducible rfl)
                    rotate_left 0
                    try simp only [Act.put, List.setIfInBounds_toArray, List.set_cons_zero, List.set_cons_succ]
                    refine wpAnyH_take (i := 1) (oi := ⟨some 145, _, _, _, _, _⟩) (v := ?_) rfl (by kernel_rfl) (by kernel_rfl) (by kernel_rfl) (fun _ _ _ h => h) (Or.inl ⟨by rfl, ?_⟩) (by assumption) ?_
                    rotate_left
                    · intro w hSw; (try dsimp only at hSw); go_simp; try (with_reducible rfl)
                    rotate_left 0
                    try simp only [Act.put, List.setIfInBounds_toArray, List.set_cons_zero, List.set_cons_succ]
                    refine wpAnyH_take (i := 2) (oi := ⟨some 146, _, _, _, _, _⟩) (v := ?_) rfl (by kernel_rfl) (by kernel_rfl) (by kernel_rfl) (fun _ _ _ h => h) (Or.inl ⟨by rfl, ?_⟩) (by assumption) ?_
                    rotate_left
                    · intro w hSw; (try dsimp only at hSw); go_simp; try (with_reducible rfl)
                    rotate_left 0
                    try simp only [Act.put, List.setIfInBounds_toArray, List.set_cons_zero, List.set_cons_succ]
                    refine wpAnyH_take (i := 3) (oi := ⟨some 147, _, _, _, _, _⟩) (v := (idv x.id)) rfl (by kernel_rfl) (by kernel_rfl) (by kernel_rfl) (fun _ _ _ h => h) (yields_run (by rfl) 24 _ rfl (.pointer (some ⟨Wu.heap.size, 0, none⟩)) _ rfl (fun W' hS => hS.1)) (by assumption) ?_
                    try simp only [Act.put, List.setIfInBounds_toArray, List.set_cons_zero, List.set_cons_succ]
                    refine wpAnyH_take (i := 4) (oi := ⟨some 148, _, _, _, _, _⟩) (v := ?_) rfl (by kernel_rfl) (by kernel_rfl) (by kernel_rfl) (fun _ _ _ h => h) (Or.inl ⟨by rfl, ?_⟩) (by assumption) ?_
                    rotate_left
                    · intro w hSw; (try dsimp only at hSw); go_simp; try (with_reducible rfl)
                    rotate_left 0
                    try simp only [Act.put, List.setIfInBounds_toArray, List.set_cons_zero, List.set_cons_succ]
                    refine wpAnyH_take (i := 5) (oi := ⟨some 149, _, _, _, _, _⟩) (v := (idv x.id)) rfl (by kernel_rfl) (by kernel_rfl) (by kernel_rfl) (fun _ _ _ h => h) (yields_run (by rfl) 24 _ rfl (.pointer (some ⟨wr.heap.size, 4, none⟩)) _ rfl (fun W' hS => hS.2.1)) (by assumption) ?_
                    try simp only [Act.put, List.setIfInBounds_toArray, List.set_cons_zero, List.set_cons_succ]
                    refine wpAnyH_take (i := 6) (oi := ⟨some 150, _, _, _, _, _⟩) (v := (.bool false)) rfl (by kernel_rfl) (by kernel_rfl) (by kernel_rfl) (fun _ _ _ h => h) (yields_as (yields_neI (by rfl) _ _ rfl x.id x.id rfl rfl HXO.out.id HXO.out.id) (by simp)) (by assumption) ?_
                    try simp only [Act.put, List.setIfInBounds_toArray, List.set_cons_zero, List.set_cons_succ]
                    refine wpAnyH_take (i := 7) (oi := ⟨some 151, _, _, _, _, _⟩) (v := ?_) rfl (by kernel_rfl) (by kernel_rfl) (by kernel_rfl) (fun _ _ _ h => h) (Or.inl ⟨by rfl, ?_⟩) (by assumption) ?_
                    rotate_left
                    · intro w hSw; (try dsimp only at hSw); go_simp; try (with_reducible rfl)
                    rotate_left 0
                    try simp only [Act.put, List.setIfInBounds_toArray, List.set_cons_zero, List.set_cons_succ]
                    refine wpAnyH_take (i := 8) (oi := ⟨some 152, _, _, _, _, _⟩) (v := ?_) rfl (by kernel_rfl) (by kernel_rfl) (by kernel_rfl) (fun _ _ _ h => h) (Or.inl ⟨by rfl, ?_⟩) (by assumption) ?_
                    rotate_left
                    · intro w hSw; (try dsimp only at hSw); go_simp; try (with_reducible rfl)
                    rotate_left 0
                    try simp only [Act.put, List.setIfInBounds_toArray, List.set_cons_zero, List.set_cons_succ]
                    refine wpAnyH_take (i := 9) (oi := ⟨some 153, _, _, _, _, _⟩) (v := (idv x.id)) rfl (by kernel_rfl) (by kernel_rfl) (by kernel_rfl) (fun _ _ _ h => h) (yields_run (by rfl) 24 _ rfl (.pointer (some ⟨Wu.heap.size, 0, none⟩)) _ rfl (fun W' hS => hS.1)) (by assumption) ?_
                    try simp only [Act.put, List.setIfInBounds_toArray, List.set_cons_zero, List.set_cons_succ]
                    refine wpAnyH_ready (rs := [10]) (by kernel_rfl) (by simp) ?_
                    refine (AllReadyH.cons (o := ⟨some 154, _, _, _, _, _⟩) rfl (fun K hK => ?_) AllReadyH.nil)
                    (try rw [if_pos (by rfl)])
                    go_simp
                    refine (nil_any _).mono ?_
                    rintro e Wn ⟨rfl, hbn⟩
                    replace hTk := hTk.same (hbn.block _ hTk.lt)
                    replace hS7 := hS7.below hbn hS7.lt
                    replace hlk := hlk.below hbn
                    replace hO := hO.below hbn
                    replace hS8 := hS8.below hbn hS8.lt
                    clear hbn
                    try dsimp only
                    refine hK.out _ _ (⟨run_loadVar_idv HXO.out.id hS7, act_id hS8 HXO.out, hTk⟩) (fun hHeld => ?_)
                    clear hK K
                    try simp only [Act.put, List.setIfInBounds_toArray, List.set_cons_zero, List.set_cons_succ]
                    refine wpAnyH_take (i := 11) (oi := ⟨some 155, _, _, _, _, _⟩) (v := (.bool false)) rfl (by kernel_rfl) (by kernel_rfl) (by kernel_rfl) (fun _ _ _ h => h) (yields_as (yields_eqI (by rfl) _ _ rfl x.id nilId rfl rfl HXO.out.id nilId_ok) (by have := HKQ.out.2.1; simpa using this)) (by assumption) ?_
                    try simp only [Act.put, List.setIfInBounds_toArray, List.set_cons_zero, List.set_cons_succ]
                    refine wpAnyH_take (i := 12) (oi := ⟨some 156, _, _, _, _, _⟩) (v := ?_) rfl (by kernel_rfl) (by kernel_rfl) (by kernel_rfl) (fun _ _ _ h => h) (Or.inl ⟨by rfl, ?_⟩) (by assumption) ?_
                    rotate_left
                    · intro w hSw; (try dsimp only at hSw); go_simp; try (with_reducible rfl)
                    rotate_left 0
                    try simp only [Act.put, List.setIfInBounds_toArray, List.set_cons_zero, List.set_cons_succ]
                    refine wpAnyH_take (i := 13) (oi := ⟨some 157, _, _, _, _, _⟩) (v := ?_) rfl (by kernel_rfl) (by kernel_rfl) (by kernel_rfl) (fun _ _ _ h => h) (Or.inl ⟨by rfl, ?_⟩) (by assumption) ?_
                    rotate_left
                    · intro w hSw; (try dsimp only at hSw); go_simp; try (with_reducible rfl)
                    rotate_left 0
                    try simp only [Act.put, List.setIfInBounds_toArray, List.set_cons_zero, List.set_cons_succ]
                    refine wpAnyH_take (i := 14) (oi := ⟨some 158, _, _, _, _, _⟩) (v := ?_) rfl (by kernel_rfl) (by kernel_rfl) (by kernel_rfl) (fun _ _ _ h => h) (Or.inl ⟨by rfl, ?_⟩) (by assumption) ?_
                    rotate_left
                    · intro w hSw; (try dsimp only at hSw); go_simp; try (with_reducible rfl)
                    rotate_left 0
                    try simp only [Act.put, List.setIfInBounds_toArray, List.set_cons_zero, List.set_cons_succ]
                    refine wpAnyH_take (i := 15) (oi := ⟨some 159, _, _, _, _, _⟩) (v := (idv x.id)) rfl (by kernel_rfl) (by kernel_rfl) (by kernel_rfl) (fun _ _ _ h => h) (yields_run (by rfl) 24 _ rfl (.pointer (some ⟨Wu.heap.size, 0, none⟩)) _ rfl (fun W' hS => hS.1)) (by assumption) ?_
                    try simp only [Act.put, List.setIfInBounds_toArray, List.set_cons_zero, List.set_cons_succ]
                    refine wpAnyH_take (i := 16) (oi := ⟨some 160, _, _, _, _, _⟩) (v := (.bool true)) rfl (by kernel_rfl) (by kernel_rfl) (by kernel_rfl) (fun _ _ _ h => h) (yields_as (yields_lookupV (by rfl) _ _ 65 rfl 24 4 ki_law Try.underlying65 bool_zero' Mk _ Tk rfl (fun W' hS => hS.2.2) (idv x.id) rfl (ki_some HXO.out.id)) HTKT.out) (by assumption) ?_
                    try simp only [Act.put, List.setIfInBounds_toArray, List.set_cons_zero, List.set_cons_succ]
                    refine wpAnyH_take (i := 17) (oi := ⟨some 161, _, _, _, _, _⟩) (v := ?_) rfl (by kernel_rfl) (by kernel_rfl) (by kernel_rfl) (fun _ _ _ h => h) (Or.inl ⟨by rfl, ?_⟩) (by assumption) ?_
                    rotate_left
                    · intro w hSw; (try dsimp only at hSw); go_simp; try (with_reducible rfl)
                    rotate_left 0
                    try simp only [Act.put, List.setIfInBounds_toArray, List.set_cons_zero, List.set_cons_succ]
                    refine wpAnyH_take (i := 18) (oi := ⟨some 162, _, _, _, _, _⟩) (v := ?_) rfl (by kernel_rfl) (by kernel_rfl) (by kernel_rfl) (fun _ _ _ h => h) (Or.inl ⟨by rfl, ?_⟩) (by assumption) ?_
                    rotate_left
                    · intro w hSw; (try dsimp only at hSw); go_simp; try (with_reducible rfl)
                    rotate_left 0
                    try simp only [Act.put, List.setIfInBounds_toArray, List.set_cons_zero, List.set_cons_succ]
                    refine wpAnyH_done (by kernel_rfl) ?_ _
                    go_wp2_with fail
                    go_roundw
                    case rel =>
                      refine ⟨k + 1, hkl, by go_num, ?_, ?_, hO⟩
                      · rw [take_fold (upO N b) HXK.out, HGK.out]
                        show Value.bool _ = Value.bool (gk.done || decide (x.kind = 4))
                        rw [decide_eq_true HX4.out, Bool.or_true]
                      · rw [take_fold (upO N b) HXK.out, HGK.out]
                        exact (hlk.book (g' := upO N b gk x) (by unfold upO; rw [if_neg (by rw [HX4.out]; omega)]) (by unfold upO; rw [show keyR x = 0 from if_pos HX4.out, show keyN x = 0 from if_pos HX4.out, HX4.out]) rfl).more (by omega)
                    case measure => simp [intOf]; omega
                  · have HX4 := Lib.hid h4
                    have e1 : keyR x = x.round := if_neg h4
                    have e2 : keyN x = x.num := if_neg h4
                    rw [e1, e2] at HSF
                    have h4b : (x.kind == 4) = false := by rw [beq_eq_false_iff_ne]; exact h4
                    clear h4 e1 e2
                    go_upto_region 24 with (guard_target = wpList _ _ _ (Oper.mk _ (.store 53 _ _) _ _ _ _ :: _) _ _; refine wpList_store_three rfl _ _ rfl W8.heap.size (x.kind) x.round x.num rfl rfl 53 _ (Blk.newAt _ _ rfl rfl) rfl ?_; intro Wk hK6 hgk; replace hgk := (grown_of_below ((Below.refl _ W8).alloc (Nat.le_refl _) _) (some W8.heap.size)).trans hgk)
                    clear cr cn ck
                    have ck2 : Wk.cell? ⟨wr.heap.size, 0, none⟩ = some (.int .i64 x.kind) := by rw [(hS8.grown hgk (fun e => by have := hS8.lt; injection e with e; omega)).cell]; rfl
                    have hbn : Below W8.heap.size W8 Wk := below_of_grown hgk (Nat.le_refl _) (Nat.le_refl _)
                    clear hgk
                    replace hlk := hlk.below hbn
                    replace hO := hO.below hbn
                    replace hS8 := hS8.below hbn hS8.lt
                    clear hbn
                    obtain ⟨Ts, hTs, hTv⟩ := hlk.seen
                    have HTV := Lib.hid hTv
                    have HKW := Lib.hid (k3_some (r := x.kind) (k := x.round) (s := x.num) HXO.out.kind HXO.out.round HXO.out.num)
                    clear hTv
                    go_upto_region 29 with (first
                | (guard_target = wpList _ _ _ (Oper.mk _ (.load 53 _) _ _ _ _ :: _) _ _; refine wpList_load_runS (by rfl) 53 _ rfl _ _ rfl (load_three hK6) ?_)
                | (guard_target = wpList _ _ _ (Oper.mk _ (.lookup _ _ _ _) _ _ _ _ :: _) _ _; refine wpList_lookup_V rfl _ _ 52 rfl 53 4 k3_law Try.underlying52 (bool_zero' _) Ms _ Ts rfl hTs (keyV x.kind x.round x.num) rfl HKW.out ?_; rw [HTV.out, if_neg HSF.out]; try dsimp only [Option.getD])
                | (guard_target = wpList _ _ _ (Oper.mk _ (.mapUpdate _ _ _ _) _ _ _ _ :: _) _ _; refine wpList_store_V rfl _ _ _ 52 rfl 53 4 k3_law Try.underlying52 Ms _ Ts rfl hTs (by have := HNB.out; unfold maxLen; omega) (keyV x.kind x.round x.num) (.bool true) rfl rfl HKW.out ?_; intro Wv hmv htv; replace hlk := hlk.see HAP.out (SeenT.put HTV.out hmv) (grown_of_turned htv); replace hO := hO.grown (grown_of_turned htv) HBQ.out.2; replace hS8 := hS8.grown (grown_of_turned htv) HP8.out.2; clear hmv htv hTs))
                    clear ck2
                    have ck3 : Wv.cell? ⟨wr.heap.size, 0, none⟩ = some (.int .i64 x.kind) := by rw [hS8.cell]; rfl
                    by_cases h2 : x.kind = 2
                    · have cr : Wv.cell? ⟨wr.heap.size, 1, none⟩ = some (.int .i64 x.round) := act_round hS8
                      have cn : Wv.cell? ⟨wr.heap.size, 2, none⟩ = some (.int .i64 x.num) := act_num hS8
                      have ca : Wv.cell? ⟨w.heap.size, 1, none⟩ = some (.int .i64 b) := by rw [(HK1.out.below (hlk.base) HK1.out.lt).cell]; rfl
                      have HX2 := Lib.hid h2
                      rw [h2] at ck3
                      clear h2
                      go_upto_region 31 with (first
                | (guard_target = wpList _ _ _ (Oper.mk _ (.load 24 (.tmp 131)) _ _ _ _ :: _) _ _; refine wpList_load_runS (by rfl) 24 _ rfl _ _ rfl (act_id hS8 HXO.out) ?_)
                | (go_at_call 21; refine (put_any hlk.cnt x.round x.num b x.id HXO.out.id HXO.out.round HXO.out.num HWB.out (by have := HNB.out; unfold maxLen; omega)).mono ?_; rintro e Wu ⟨rfl, hcu, hgu⟩; replace hlk := hlk.put HAP.out hcu hgu; replace hO := hO.grown hgu HBQ.out.1; replace hS8 := hS8.grown hgu HP8.out.1; clear hcu hgu))
                      clear ck3 cr cn ca
                      have ck4 : Wu.cell? ⟨wr.heap.size, 0, none⟩ = some (.int .i64 2) := by rw [hS8.cell]; show some (Value.int .i64 x.kind) = _; rw [HX2.out]
                      go_wp2_with fail
                      go_roundw
                      case rel =>
                        refine ⟨k + 1, hkl, by go_num, ?_, ?_, hO⟩
                        · rw [take_fold (upO N b) HXK.out, HGK.out]
                          show Value.bool _ = Value.bool (gk.done || decide (x.kind = 4))
                          rw [HD0.out, decide_eq_false HX4.out]
                          rfl
                        · rw [take_fold (upO N b) HXK.out, HGK.out]
                          exact (hlk.book (g' := upO N b gk x) (by unfold upO; rw [if_pos HX2.out]) (by unfold upO; rw [show keyR x = x.round from if_neg HX4.out, show keyN x = x.num from if_neg HX4.out]) rfl).more (by omega)
                      case measure => simp [intOf]; omega
                    · have h2b : (x.kind == 2) = false := by rw [beq_eq_false_iff_ne]; exact h2
                      have HX2 := Lib.hid h2
                      clear h2
                      go_wp2_with fail
                      go_roundw
                      case rel =>
                        refine ⟨k + 1, hkl, by go_num, ?_, ?_, hO⟩
                        · rw [take_fold (upO N b) HXK.out, HGK.out]
                          show Value.bool _ = Value.bool (gk.done || decide (x.kind = 4))
                          rw [HD0.out, decide_eq_false HX4.out]
                          rfl
                        · rw [take_fold (upO N b) HXK.out, HGK.out]
                          exact (hlk.book (g' := upO N b gk x) (by unfold upO; rw [if_neg HX2.out]) (by unfold upO; rw [show keyR x = x.round from if_neg HX4.out, show keyN x = x.num from if_neg HX4.out]) rfl).more (by omega)
                      case measure => simp [intOf]; omega
                · obtain rfl : k = nl := by omega
                  have hki : ¬ (k : Int) < (k : Int) := by omega
                  have hfull : lg.take k = lg := List.take_of_length_le (by rw [HNL.out]; exact Nat.le_refl _)
                  rw [hfull] at hlk ⊢
                  have HLK := Lib.hid hlk
                  clear hfull hlk hO
                  go_wp2_with fail
                  go_roundw
                  case rel => exact ⟨j + 1, giveS s i, _, (n2 + 1) + 2 * k, hlt, by go_num, rfl, HLK.out, HQ.out.2, by have := HN2.out; omega⟩
                  case measure => simp [intOf]; omega
          · have hin : inO N b g i = g := by
              have e1 := inO_known (N := N) (me := b) (g := g) (i := i) h1
              have e2 := inO_c (N := N) (me := b) (g := g) (i := i) (fun q => h3 q.1)
              cases g
              unfold inO at *
              simp_all
            have h1b : (i.kind == 1) = false := by rw [beq_eq_false_iff_ne]; exact h1
            rw [hin] at HQ
            have hS9v := HS9.out
            clear hin h3 h1 HLI
            go_upto_region 21 with (first
    | (guard_target = wpList _ _ _ (Oper.mk _ (.load 67 _) _ _ _ _ :: _) _ _; refine wpList_load_inn (by rfl) _ rfl ⟨wr.heap.size, 0, none⟩ i rfl (load_inn hS9v HOK.out) ?_)
    | (go_at_call 34; refine (hL.law.give HBM.out (by have := HJL.out; omega) i HOK.out HK6.out).mono ?_; rintro e Wg ⟨vg, rfl, hog, hlg, hkp⟩; rw [HLQ.out] at hog; have hnb : nl ≤ 1000000 := HNL.out ▸ hog.2.1; obtain ⟨Aq, cq, rfl⟩ := hog.sliceN HNL.out))
            as_aux_lemma =>
              have HLG : Hid (OnR W1 B C M N C2 M2 Ms Mk (j + 1) (giveS s i) (g) n2 Wg) := Lib.hid ⟨hlg, hL.cnt.same (hkp C2 (by simp)) (hkp M2 (by simp)), hL.seen.same (hkp Ms (by simp)), hL.known.same (hkp Mk (by simp))⟩
              obtain ⟨bq, hob, hbq⟩ : ∃ bq, OwnA bq Wg (.slice Aq nl cq) lg ∧ (M2 < bq ∧ Ms < bq) := ⟨_, hog, hL.cnt.ltM, hL.seen.lt⟩
              have HOB := Lib.hid hob
              have HBQ := Lib.hid hbq
              obtain ⟨wp, hwp⟩ : ∃ z, z = wr := ⟨_, rfl⟩
              subst hwp
              have HDG : Hid ((g).done = g.done) := Lib.hid rfl
              clear hob hbq hog hlg hkp
              go_loopw [11, 96] (fun s11 s96 wr => ∃ k : Nat, k ≤ nl ∧ s96 = .int .i64 (k : Int) ∧ s11 = .bool ((lg.take k).foldl (upO N b) (g)).done ∧ OnR W1 B C M N C2 M2 Ms Mk (j + 1) (giveS s i) ((lg.take k).foldl (upO N b) (g)) (n2 + 2 * k) wr ∧ OwnA bq wr (.slice Aq nl cq) lg) (fun _ s96 _ => nl - (intOf s96).toNat)
              case atStart => exact ⟨0, Nat.zero_le _, rfl, rfl, HLG.out, HOB.out⟩
              case round =>
                obtain ⟨k, hkn, rfl, rfl, hlk, hO⟩ := hrel
                by_cases hkl : k < nl
                · have hki : (k : Int) < (nl : Int) := by omega
                  have hk0 : (0 : Int) ≤ (k : Int) := by omega
                  obtain ⟨x, hxk⟩ : ∃ x, lg[k]? = some x := ⟨_, List.getElem?_eq_getElem (by rw [HNL.out]; exact hkl)⟩
                  obtain ⟨gk, hgk⟩ : ∃ gk, (lg.take k).foldl (upO N b) (g) = gk := ⟨_, rfl⟩
                  have hok := acts_at HQ.out.1 hxk
                  rw [hgk] at hlk hok ⊢
                  obtain ⟨hsf, hd0, hk4⟩ := hok
                  rw [hd0]
                  have HD0 := Lib.hid hd0
                  have HK4 := Lib.hid hk4
                  have HSF : Hid (¬ gk.seen x.kind (keyR x) (keyN x) = true) := Lib.hid (by rw [hsf]; simp)
                  have HGK := Lib.hid hgk
                  have HXK := Lib.hid hxk
                  obtain ⟨adx, cx, hex, hxo, _, hla⟩ := hO.rd.here hxk
                  rw [HNL.out] at hex
                  obtain ⟨rfl, -, rfl⟩ := Value.slice.inj hex
                  have HLA := Lib.hid hla
                  have HXO := Lib.hid hxo
                  have HNB : Hid (n2 + 2 * k + 1 < 1000000000) := Lib.hid (by have := HN2.out; have := HJL.out; omega)
                  have HP8 : Hid (some wr.heap.size ≠ some M2 ∧ some wr.heap.size ≠ some Ms) := Lib.hid ⟨fun e => by have := hlk.cnt.ltM; injection e with e; omega, fun e => by have := hlk.seen.lt; injection e with e; omega⟩
                  clear hxk hex hxo hla hgk hsf hd0 hk4
                  go_upto_region 23 with (first
                | (guard_target = wpList _ _ _ (Oper.mk _ (.load 71 _) _ _ _ _ :: _) _ _; refine wpList_load_runS (by rfl) 71 _ rfl _ _ rfl (HLA.out _ (Below.refl _ _)) ?_)
                | (guard_target = wpList _ _ _ (Oper.mk _ (.store 71 _ _) _ _ _ _ :: _) _ _; refine wpList_store_actL rfl _ _ rfl wr.heap.size x rfl rfl HXO.out 71 _ (Blk.newAt _ _ rfl rfl) rfl ?_; intro W8 hS8 hz8 hb8 hk8; have hbn := (((Below.refl _ wr).alloc (Nat.le_refl _) _).trans hb8); replace hlk := hlk.below hbn; replace hO := hO.below hbn; clear hz8 hb8 hk8 hbn))
                  have cr : W8.cell? ⟨wr.heap.size, 1, none⟩ = some (.int .i64 x.round) := act_round hS8
                  have cn : W8.cell? ⟨wr.heap.size, 2, none⟩ = some (.int .i64 x.num) := act_num hS8
                  have ck : W8.cell? ⟨wr.heap.size, 0, none⟩ = some (.int .i64 x.kind) := by rw [hS8.cell]; rfl
                  by_cases h4 : x.kind = 4
                  · have HX4 := Lib.hid h4
                    have e1 : keyR x = 0 := if_pos h4
                    have e2 : keyN x = 0 := if_pos h4
                    rw [e1, e2, h4] at HSF
                    rw [h4] at ck
                    have HKQ := Lib.hid (HK4.out h4)
                    clear h4 e1 e2
                    go_upto_region 24 with (guard_target = wpList _ _ _ (Oper.mk _ (.store 53 _ _) _ _ _ _ :: _) _ _; refine wpList_store_three rfl _ _ rfl W8.heap.size (4) x.round x.num rfl rfl 53 _ (Blk.newAt _ _ rfl rfl) rfl ?_; intro Wk hK6 hgk; replace hgk := (grown_of_below ((Below.refl _ W8).alloc (Nat.le_refl _) _) (some W8.heap.size)).trans hgk)
                    have ck2 : Wk.cell? ⟨wr.heap.size, 0, none⟩ = some (.int .i64 4) := by rw [(hS8.grown hgk (fun e => by have := hS8.lt; injection e with e; omega)).cell]; show some (Value.int .i64 x.kind) = _; rw [HX4.out]
                    clear cr cn ck
                    go_upto_region 26 with (guard_target = wpList _ _ _ (Oper.mk _ (.store 53 _ _) _ _ _ _ :: _) _ _; refine wpList_store_three rfl _ _ rfl W8.heap.size 4 0 0 rfl rfl 53 _ hK6 rfl ?_; intro Wk2 hK7 hgk2; replace hgk := hgk.trans hgk2; clear hK6; have hK6 := hK7; clear hK7 hgk2)
                    clear ck2
                    have hbn : Below W8.heap.size W8 Wk2 := below_of_grown hgk (Nat.le_refl _) (Nat.le_refl _)
                    clear hgk
                    replace hlk := hlk.below hbn
                    replace hO := hO.below hbn
                    replace hS8 := hS8.below hbn hS8.lt
                    clear hbn
                    obtain ⟨Ts, hTs, hTv⟩ := hlk.seen
                    have HTV := Lib.hid hTv
                    have HKW := Lib.hid (k3_some (r := 4) (k := 0) (s := 0) (wfi_small (by omega) (by omega)) (wfi_small (by omega) (by omega)) (wfi_small (by omega) (by omega)))
                    clear hTv
                    go_upto_region 29 with (first
                | (guard_target = wpList _ _ _ (Oper.mk _ (.load 53 _) _ _ _ _ :: _) _ _; refine wpList_load_runS (by rfl) 53 _ rfl _ _ rfl (load_three hK6) ?_)
                | (guard_target = wpList _ _ _ (Oper.mk _ (.lookup _ _ _ _) _ _ _ _ :: _) _ _; refine wpList_lookup_V rfl _ _ 52 rfl 53 4 k3_law Try.underlying52 (bool_zero' _) Ms _ Ts rfl hTs (keyV 4 0 0) rfl HKW.out ?_; rw [HTV.out, if_neg HSF.out]; try dsimp only [Option.getD])
                | (guard_target = wpList _ _ _ (Oper.mk _ (.mapUpdate _ _ _ _) _ _ _ _ :: _) _ _; refine wpList_store_V rfl _ _ _ 52 rfl 53 4 k3_law Try.underlying52 Ms _ Ts rfl hTs (by have := HNB.out; unfold maxLen; omega) (keyV 4 0 0) (.bool true) rfl rfl HKW.out ?_; intro Wv hmv htv; replace hlk := hlk.see HAP.out (SeenT.put HTV.out hmv) (grown_of_turned htv); replace hO := hO.grown (grown_of_turned htv) HBQ.out.2; replace hS8 := hS8.grown (grown_of_turned htv) HP8.out.2; clear hmv htv hTs))
                    have ck3 : Wv.cell? ⟨wr.heap.size, 0, none⟩ = some (.int .i64 4) := by rw [hS8.cell]; show some (Value.int .i64 x.kind) = _; rw [HX4.out]
                    have cr : Wv.cell? ⟨wr.heap.size, 1, none⟩ = some (.int .i64 x.round) := act_round hS8
                    have HSU := Lib.hid (sure_okS hlk.cnt x.round 1 HXO.out.round (wfi_small (by omega) (by omega)) HN1000.out HKQ.out.1)
                    go_upto_region 34 with (first
                | (go_at_call 22; refine HSU.out.mono ?_; rintro e Wu ⟨rfl, hbn⟩; replace hlk := hlk.below hbn; replace hO := hO.below hbn; replace hS8 := hS8.below hbn hS8.lt; clear hbn)
                | (guard_target = wpList _ _ _ (Oper.mk _ (.store 24 _ _) _ _ _ _ :: _) _ _; refine wpList_store_idv rfl _ _ rfl Wu.heap.size x.id rfl rfl HXO.out.id 24 _ (Blk.newAt _ _ rfl rfl) rfl ?_; intro W7 hS7 hz7 hb7 hk7; have hbn := (((Below.refl _ Wu).alloc (Nat.le_refl _) _).trans hb7); replace hlk := hlk.below hbn; replace hO := hO.below hbn; replace hS8 := hS8.below hbn hS8.lt; clear hbn; clear hz7 hb7 hk7))
                    clear ck3 cr
                    obtain ⟨Tk, hTk, hTkv⟩ := hlk.known
                    have HTKV := Lib.hid hTkv
                    have HTKT : Hid ((Tk (idv x.id)).getD (.bool false) = .bool true) := Lib.hid (by rw [hTkv x.id HXO.out.id]; rw [if_pos HKQ.out.2.2.1]; rfl)
                    clear hTkv
                    replace hTk := hTk.same (w' := World.drew _) rfl
                    replace hS7 := hS7.drew
                    replace hlk := hlk.below (Below.refl _ _).drew
                    replace hO := hO.drew
                    replace hS8 := hS8.drew
                    refine wp_region_held_drew (S := fun W' => (Instr.loadAt 24 (.pointer (some ⟨Wu.heap.size, 0, none⟩))).run Try.prog W' = .ok (idv x.id) W' ∧ (Instr.loadAt 24 (.pointer (some ⟨wr.heap.size, 4, none⟩))).run Try.prog W' = .ok (idv x.id) W' ∧ MapV Try.prog 24 W' Mk (n2 + 2 * k + 1) Tk) (by kernel_rfl) ?_ (fun hHeld => ?_)
                    · exact ⟨run_loadVar_idv HXO.out.id hS7, act_id hS8 HXO.out, hTk⟩
                    refine wpAnyH_take (i := 0) (oi := ⟨some 144, _, _, _, _, _⟩) (v := ?_) rfl (by kernel_rfl) (by kernel_rfl) (by kernel_rfl) (fun _ _ _ h => h) (Or.inl ⟨by rfl, ?_⟩) (by assumption) ?_
                    rotate_left
                    · intro w hSw; (try dsimp only at hSw); go_simp; try (with_reducible rfl)
                    rotate_left 0
                    try simp only [Act.put, List.setIfInBounds_toArray, List.set_cons_zero, List.set_cons_succ]
                    refine wpAnyH_take (i := 1) (oi := ⟨some 145, _, _, _, _, _⟩) (v := ?_) rfl (by kernel_rfl) (by kernel_rfl) (by kernel_rfl) (fun _ _ _ h => h) (Or.inl ⟨by rfl, ?_⟩) (by assumption) ?_
                    rotate_left
                    · intro w hSw; (try dsimp only at hSw); go_simp; try (with_reducible rfl)
                    rotate_left 0
                    try simp only [Act.put, List.setIfInBounds_toArray, List.set_cons_zero, List.set_cons_succ]
                    refine wpAnyH_take (i := 2) (oi := ⟨some 146, _, _, _, _, _⟩) (v := ?_) rfl (by kernel_rfl) (by kernel_rfl) (by kernel_rfl) (fun _ _ _ h => h) (Or.inl ⟨by rfl, ?_⟩) (by assumption) ?_
                    rotate_left
                    · intro w hSw; (try dsimp only at hSw); go_simp; try (with_reducible rfl)
                    rotate_left 0
                    try simp only [Act.put, List.setIfInBounds_toArray, List.set_cons_zero, List.set_cons_succ]
                    refine wpAnyH_take (i := 3) (oi := ⟨some 147, _, _, _, _, _⟩) (v := (idv x.id)) rfl (by kernel_rfl) (by kernel_rfl) (by kernel_rfl) (fun _ _ _ h => h) (yields_run (by rfl) 24 _ rfl (.pointer (some ⟨Wu.heap.size, 0, none⟩)) _ rfl (fun W' hS => hS.1)) (by assumption) ?_
                    try simp only [Act.put, List.setIfInBounds_toArray, List.set_cons_zero, List.set_cons_succ]
                    refine wpAnyH_take (i := 4) (oi := ⟨some 148, _, _, _, _, _⟩) (v := ?_) rfl (by kernel_rfl) (by kernel_rfl) (by kernel_rfl) (fun _ _ _ h => h) (Or.inl ⟨by rfl, ?_⟩) (by assumption) ?_
                    rotate_left
                    · intro w hSw; (try dsimp only at hSw); go_simp; try (with_reducible rfl)
                    rotate_left 0
                    try simp only [Act.put, List.setIfInBounds_toArray, List.set_cons_zero, List.set_cons_succ]
                    refine wpAnyH_take (i := 5) (oi := ⟨some 149, _, _, _, _, _⟩) (v := (idv x.id)) rfl (by kernel_rfl) (by kernel_rfl) (by kernel_rfl) (fun _ _ _ h => h) (yields_run (by rfl) 24 _ rfl (.pointer (some ⟨wr.heap.size, 4, none⟩)) _ rfl (fun W' hS => hS.2.1)) (by assumption) ?_
                    try simp only [Act.put, List.setIfInBounds_toArray, List.set_cons_zero, List.set_cons_succ]
                    refine wpAnyH_take (i := 6) (oi := ⟨some 150, _, _, _, _, _⟩) (v := (.bool false)) rfl (by kernel_rfl) (by kernel_rfl) (by kernel_rfl) (fun _ _ _ h => h) (yields_as (yields_neI (by rfl) _ _ rfl x.id x.id rfl rfl HXO.out.id HXO.out.id) (by simp)) (by assumption) ?_
                    try simp only [Act.put, List.setIfInBounds_toArray, List.set_cons_zero, List.set_cons_succ]
                    refine wpAnyH_take (i := 7) (oi := ⟨some 151, _, _, _, _, _⟩) (v := ?_) rfl (by kernel_rfl) (by kernel_rfl) (by kernel_rfl) (fun _ _ _ h => h) (Or.inl ⟨by rfl, ?_⟩) (by assumption) ?_
                    rotate_left
                    · intro w hSw; (try dsimp only at hSw); go_simp; try (with_reducible rfl)
                    rotate_left 0
                    try simp only [Act.put, List.setIfInBounds_toArray, List.set_cons_zero, List.set_cons_succ]
                    refine wpAnyH_take (i := 8) (oi := ⟨some 152, _, _, _, _, _⟩) (v := ?_) rfl (by kernel_rfl) (by kernel_rfl) (by kernel_rfl) (fun _ _ _ h => h) (Or.inl ⟨by rfl, ?_⟩) (by assumption) ?_
                    rotate_left
                    · intro w hSw; (try dsimp only at hSw); go_simp; try (with_reducible rfl)
                    rotate_left 0
                    try simp only [Act.put, List.setIfInBounds_toArray, List.set_cons_zero, List.set_cons_succ]
                    refine wpAnyH_take (i := 9) (oi := ⟨some 153, _, _, _, _, _⟩) (v := (idv x.id)) rfl (by kernel_rfl) (by kernel_rfl) (by kernel_rfl) (fun _ _ _ h => h) (yields_run (by rfl) 24 _ rfl (.pointer (some ⟨Wu.heap.size, 0, none⟩)) _ rfl (fun W' hS => hS.1)) (by assumption) ?_
                    try simp only [Act.put, List.setIfInBounds_toArray, List.set_cons_zero, List.set_cons_succ]
                    refine wpAnyH_ready (rs := [10]) (by kernel_rfl) (by simp) ?_
                    refine (AllReadyH.cons (o := ⟨some 154, _, _, _, _, _⟩) rfl (fun K hK => ?_) AllReadyH.nil)
                    (try rw [if_pos (by rfl)])
                    go_simp
                    refine (nil_any _).mono ?_
                    rintro e Wn ⟨rfl, hbn⟩
                    replace hTk := hTk.same (hbn.block _ hTk.lt)
                    replace hS7 := hS7.below hbn hS7.lt
                    replace hlk := hlk.below hbn
                    replace hO := hO.below hbn
                    replace hS8 := hS8.below hbn hS8.lt
                    clear hbn
                    try dsimp only
                    refine hK.out _ _ (⟨run_loadVar_idv HXO.out.id hS7, act_id hS8 HXO.out, hTk⟩) (fun hHeld => ?_)
                    clear hK K
                    try simp only [Act.put, List.setIfInBounds_toArray, List.set_cons_zero, List.set_cons_succ]
                    refine wpAnyH_take (i := 11) (oi := ⟨some 155, _, _, _, _, _⟩) (v := (.bool false)) rfl (by kernel_rfl) (by kernel_rfl) (by kernel_rfl) (fun _ _ _ h => h) (yields_as (yields_eqI (by rfl) _ _ rfl x.id nilId rfl rfl HXO.out.id nilId_ok) (by have := HKQ.out.2.1; simpa using this)) (by assumption) ?_
                    try simp only [Act.put, List.setIfInBounds_toArray, List.set_cons_zero, List.set_cons_succ]
                    refine wpAnyH_take (i := 12) (oi := ⟨some 156, _, _, _, _, _⟩) (v := ?_) rfl (by kernel_rfl) (by kernel_rfl) (by kernel_rfl) (fun _ _ _ h => h) (Or.inl ⟨by rfl, ?_⟩) (by assumption) ?_
                    rotate_left
                    · intro w hSw; (try dsimp only at hSw); go_simp; try (with_reducible rfl)
                    rotate_left 0
                    try simp only [Act.put, List.setIfInBounds_toArray, List.set_cons_zero, List.set_cons_succ]
                    refine wpAnyH_take (i := 13) (oi := ⟨some 157, _, _, _, _, _⟩) (v := ?_) rfl (by kernel_rfl) (by kernel_rfl) (by kernel_rfl) (fun _ _ _ h => h) (Or.inl ⟨by rfl, ?_⟩) (by assumption) ?_
                    rotate_left
                    · intro w hSw; (try dsimp only at hSw); go_simp; try (with_reducible rfl)
                    rotate_left 0
                    try simp only [Act.put, List.setIfInBounds_toArray, List.set_cons_zero, List.set_cons_succ]
                    refine wpAnyH_take (i := 14) (oi := ⟨some 158, _, _, _, _, _⟩) (v := ?_) rfl (by kernel_rfl) (by kernel_rfl) (by kernel_rfl) (fun _ _ _ h => h) (Or.inl ⟨by rfl, ?_⟩) (by assumption) ?_
                    rotate_left
                    · intro w hSw; (try dsimp only at hSw); go_simp; try (with_reducible rfl)
                    rotate_left 0
                    try simp only [Act.put, List.setIfInBounds_toArray, List.set_cons_zero, List.set_cons_succ]
                    refine wpAnyH_take (i := 15) (oi := ⟨some 159, _, _, _, _, _⟩) (v := (idv x.id)) rfl (by kernel_rfl) (by kernel_rfl) (by kernel_rfl) (fun _ _ _ h => h) (yields_run (by rfl) 24 _ rfl (.pointer (some ⟨Wu.heap.size, 0, none⟩)) _ rfl (fun W' hS => hS.1)) (by assumption) ?_
                    try simp only [Act.put, List.setIfInBounds_toArray, List.set_cons_zero, List.set_cons_succ]
                    refine wpAnyH_take (i := 16) (oi := ⟨some 160, _, _, _, _, _⟩) (v := (.bool true)) rfl (by kernel_rfl) (by kernel_rfl) (by kernel_rfl) (fun _ _ _ h => h) (yields_as (yields_lookupV (by rfl) _ _ 65 rfl 24 4 ki_law Try.underlying65 bool_zero' Mk _ Tk rfl (fun W' hS => hS.2.2) (idv x.id) rfl (ki_some HXO.out.id)) HTKT.out) (by assumption) ?_
                    try simp only [Act.put, List.setIfInBounds_toArray, List.set_cons_zero, List.set_cons_succ]
                    refine wpAnyH_take (i := 17) (oi := ⟨some 161, _, _, _, _, _⟩) (v := ?_) rfl (by kernel_rfl) (by kernel_rfl) (by kernel_rfl) (fun _ _ _ h => h) (Or.inl ⟨by rfl, ?_⟩) (by assumption) ?_
                    rotate_left
                    · intro w hSw; (try dsimp only at hSw); go_simp; try (with_reducible rfl)
                    rotate_left 0
                    try simp only [Act.put, List.setIfInBounds_toArray, List.set_cons_zero, List.set_cons_succ]
                    refine wpAnyH_take (i := 18) (oi := ⟨some 162, _, _, _, _, _⟩) (v := ?_) rfl (by kernel_rfl) (by kernel_rfl) (by kernel_rfl) (fun _ _ _ h => h) (Or.inl ⟨by rfl, ?_⟩) (by assumption) ?_
                    rotate_left
                    · intro w hSw; (try dsimp only at hSw); go_simp; try (with_reducible rfl)
                    rotate_left 0
                    try simp only [Act.put, List.setIfInBounds_toArray, List.set_cons_zero, List.set_cons_succ]
                    refine wpAnyH_done (by kernel_rfl) ?_ _
                    go_wp2_with fail
                    go_roundw
                    case rel =>
                      refine ⟨k + 1, hkl, by go_num, ?_, ?_, hO⟩
                      · rw [take_fold (upO N b) HXK.out, HGK.out]
                        show Value.bool _ = Value.bool (gk.done || decide (x.kind = 4))
                        rw [decide_eq_true HX4.out, Bool.or_true]
                      · rw [take_fold (upO N b) HXK.out, HGK.out]
                        exact (hlk.book (g' := upO N b gk x) (by unfold upO; rw [if_neg (by rw [HX4.out]; omega)]) (by unfold upO; rw [show keyR x = 0 from if_pos HX4.out, show keyN x = 0 from if_pos HX4.out, HX4.out]) rfl).more (by omega)
                    case measure => simp [intOf]; omega
                  · have HX4 := Lib.hid h4
                    have e1 : keyR x = x.round := if_neg h4
                    have e2 : keyN x = x.num := if_neg h4
                    rw [e1, e2] at HSF
                    have h4b : (x.kind == 4) = false := by rw [beq_eq_false_iff_ne]; exact h4
                    clear h4 e1 e2
                    go_upto_region 24 with (guard_target = wpList _ _ _ (Oper.mk _ (.store 53 _ _) _ _ _ _ :: _) _ _; refine wpList_store_three rfl _ _ rfl W8.heap.size (x.kind) x.round x.num rfl rfl 53 _ (Blk.newAt _ _ rfl rfl) rfl ?_; intro Wk hK6 hgk; replace hgk := (grown_of_below ((Below.refl _ W8).alloc (Nat.le_refl _) _) (some W8.heap.size)).trans hgk)
                    clear cr cn ck
                    have ck2 : Wk.cell? ⟨wr.heap.size, 0, none⟩ = some (.int .i64 x.kind) := by rw [(hS8.grown hgk (fun e => by have := hS8.lt; injection e with e; omega)).cell]; rfl
                    have hbn : Below W8.heap.size W8 Wk := below_of_grown hgk (Nat.le_refl _) (Nat.le_refl _)
                    clear hgk
                    replace hlk := hlk.below hbn
                    replace hO := hO.below hbn
                    replace hS8 := hS8.below hbn hS8.lt
                    clear hbn
                    obtain ⟨Ts, hTs, hTv⟩ := hlk.seen
                    have HTV := Lib.hid hTv
                    have HKW := Lib.hid (k3_some (r := x.kind) (k := x.round) (s := x.num) HXO.out.kind HXO.out.round HXO.out.num)
                    clear hTv
                    go_upto_region 29 with (first
                | (guard_target = wpList _ _ _ (Oper.mk _ (.load 53 _) _ _ _ _ :: _) _ _; refine wpList_load_runS (by rfl) 53 _ rfl _ _ rfl (load_three hK6) ?_)
                | (guard_target = wpList _ _ _ (Oper.mk _ (.lookup _ _ _ _) _ _ _ _ :: _) _ _; refine wpList_lookup_V rfl _ _ 52 rfl 53 4 k3_law Try.underlying52 (bool_zero' _) Ms _ Ts rfl hTs (keyV x.kind x.round x.num) rfl HKW.out ?_; rw [HTV.out, if_neg HSF.out]; try dsimp only [Option.getD])
                | (guard_target = wpList _ _ _ (Oper.mk _ (.mapUpdate _ _ _ _) _ _ _ _ :: _) _ _; refine wpList_store_V rfl _ _ _ 52 rfl 53 4 k3_law Try.underlying52 Ms _ Ts rfl hTs (by have := HNB.out; unfold maxLen; omega) (keyV x.kind x.round x.num) (.bool true) rfl rfl HKW.out ?_; intro Wv hmv htv; replace hlk := hlk.see HAP.out (SeenT.put HTV.out hmv) (grown_of_turned htv); replace hO := hO.grown (grown_of_turned htv) HBQ.out.2; replace hS8 := hS8.grown (grown_of_turned htv) HP8.out.2; clear hmv htv hTs))
                    clear ck2
                    have ck3 : Wv.cell? ⟨wr.heap.size, 0, none⟩ = some (.int .i64 x.kind) := by rw [hS8.cell]; rfl
                    by_cases h2 : x.kind = 2
                    · have cr : Wv.cell? ⟨wr.heap.size, 1, none⟩ = some (.int .i64 x.round) := act_round hS8
                      have cn : Wv.cell? ⟨wr.heap.size, 2, none⟩ = some (.int .i64 x.num) := act_num hS8
                      have ca : Wv.cell? ⟨w.heap.size, 1, none⟩ = some (.int .i64 b) := by rw [(HK1.out.below (hlk.base) HK1.out.lt).cell]; rfl
                      have HX2 := Lib.hid h2
                      rw [h2] at ck3
                      clear h2
                      go_upto_region 31 with (first
                | (guard_target = wpList _ _ _ (Oper.mk _ (.load 24 (.tmp 131)) _ _ _ _ :: _) _ _; refine wpList_load_runS (by rfl) 24 _ rfl _ _ rfl (act_id hS8 HXO.out) ?_)
                | (go_at_call 21; refine (put_any hlk.cnt x.round x.num b x.id HXO.out.id HXO.out.round HXO.out.num HWB.out (by have := HNB.out; unfold maxLen; omega)).mono ?_; rintro e Wu ⟨rfl, hcu, hgu⟩; replace hlk := hlk.put HAP.out hcu hgu; replace hO := hO.grown hgu HBQ.out.1; replace hS8 := hS8.grown hgu HP8.out.1; clear hcu hgu))
                      clear ck3 cr cn ca
                      have ck4 : Wu.cell? ⟨wr.heap.size, 0, none⟩ = some (.int .i64 2) := by rw [hS8.cell]; show some (Value.int .i64 x.kind) = _; rw [HX2.out]
                      go_wp2_with fail
                      go_roundw
                      case rel =>
                        refine ⟨k + 1, hkl, by go_num, ?_, ?_, hO⟩
                        · rw [take_fold (upO N b) HXK.out, HGK.out]
                          show Value.bool _ = Value.bool (gk.done || decide (x.kind = 4))
                          rw [HD0.out, decide_eq_false HX4.out]
                          rfl
                        · rw [take_fold (upO N b) HXK.out, HGK.out]
                          exact (hlk.book (g' := upO N b gk x) (by unfold upO; rw [if_pos HX2.out]) (by unfold upO; rw [show keyR x = x.round from if_neg HX4.out, show keyN x = x.num from if_neg HX4.out]) rfl).more (by omega)
                      case measure => simp [intOf]; omega
                    · have h2b : (x.kind == 2) = false := by rw [beq_eq_false_iff_ne]; exact h2
                      have HX2 := Lib.hid h2
                      clear h2
                      go_wp2_with fail
                      go_roundw
                      case rel =>
                        refine ⟨k + 1, hkl, by go_num, ?_, ?_, hO⟩
                        · rw [take_fold (upO N b) HXK.out, HGK.out]
                          show Value.bool _ = Value.bool (gk.done || decide (x.kind = 4))
                          rw [HD0.out, decide_eq_false HX4.out]
                          rfl
                        · rw [take_fold (upO N b) HXK.out, HGK.out]
                          exact (hlk.book (g' := upO N b gk x) (by unfold upO; rw [if_neg HX2.out]) (by unfold upO; rw [show keyR x = x.round from if_neg HX4.out, show keyN x = x.num from if_neg HX4.out]) rfl).more (by omega)
                      case measure => simp [intOf]; omega
                · obtain rfl : k = nl := by omega
                  have hki : ¬ (k : Int) < (k : Int) := by omega
                  have hfull : lg.take k = lg := List.take_of_length_le (by rw [HNL.out]; exact Nat.le_refl _)
                  rw [hfull] at hlk ⊢
                  have HLK := Lib.hid hlk
                  clear hfull hlk hO
                  go_wp2_with fail
                  go_roundw
                  case rel => exact ⟨j + 1, giveS s i, _, n2 + 2 * k, hlt, by go_num, rfl, HLK.out, HQ.out.2, by have := HN2.out; omega⟩
                  case measure => simp [intOf]; omega
    · obtain rfl : j = mm := by omega
      have hji : ¬ (j : Int) < (j : Int) := by omega
      go_wp2_with fail
      go_ret
      exact ⟨rfl, HB1.out.trans (HLJ.out.base.mono HB1.out.size)⟩
end Go.Proofs.Ytclhfokflagopaa
