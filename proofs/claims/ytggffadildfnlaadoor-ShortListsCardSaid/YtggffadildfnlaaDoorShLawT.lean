/-
  ShortLists: of every cut and two lists, in whatever memory in which the tables lie. No condition.
-/
import Derived.Test.YtggffadildfnlaaDoorShListsB
import Derived.Test.YtggffadildfnlaaDoorShLawR
import Derived.Test.YtggffadildfnlaaDoorShPS
namespace Go.Proofs.YtggffadildfnlaaDoor
open Go Go.RowKit Go.Shelf TreeM

theorem listsS_none (c : Int) (A B : Option Addr) (n m cp cq : Nat) (ps qs : List (List UInt8)) (w : World) (hT : Tables w) (hn : ps.length = n) (hnq : qs.length = m) (hm : n ≤ 20) (hmq : m ≤ 20) (hc : n ≤ cp) (hcq : m ≤ cq) (hl : ∀ x ∈ ps, x.length ≤ 1000000) (hlq : ∀ x ∈ qs, x.length ≤ 1000000)
    (hp : RdP w (fun b => b < w.heap.size) A ps) (hq : RdP w (fun b => b < w.heap.size) B qs) (hno : n = m → id32 (rootC c ps) = id32 (rootC c qs) → ps = qs) :
    Calls Tryd.prog 31 #[.int .i64 c, .slice A n cp, .slice B m cq] w fun e w' => e = .returned (.tuple #[.agg #[.slice none 0 0, .slice none 0 0], .bool false]) ∧ Below w.heap.size w w' := by
  refine (listsS_all c A B n m cp cq ps qs w hT hn hnq hm hmq hc hcq hl hlq hp hq).mono ?_
  rintro e w' ⟨x, y, b, rfl, ⟨rfl, rfl, rfl, _⟩ | ⟨_, h1, h2, h3, _⟩, hb⟩
  · exact ⟨rfl, hb⟩
  · exact absurd (hno (by omega) h2) h3
theorem listsS_some (c : Int) (A B : Option Addr) (n cp cq : Nat) (ps qs : List (List UInt8)) (w : World) (hT : Tables w) (hn : ps.length = n) (hnq : qs.length = n) (hm : n ≤ 20) (hc : n ≤ cp) (hcq : n ≤ cq) (hl : ∀ x ∈ ps, x.length ≤ 1000000) (hlq : ∀ x ∈ qs, x.length ≤ 1000000)
    (hp : RdP w (fun b => b < w.heap.size) A ps) (hq : RdP w (fun b => b < w.heap.size) B qs) (hr : id32 (rootC c ps) = id32 (rootC c qs)) (hne : ps ≠ qs) :
    Calls Tryd.prog 31 #[.int .i64 c, .slice A n cp, .slice B n cq] w fun e w' => ∃ A1 c1 A2 c2 s t, e = .returned (.tuple #[.agg #[.slice A1 s.length c1, .slice A2 t.length c2], .bool true]) ∧ Bad c s t ∧ s.length ≤ 1000001 ∧ t.length ≤ 1000001 ∧ RdB w' (fun b => b < w'.heap.size) (.slice A1 s.length c1) s ∧ RdB w' (fun b => b < w'.heap.size) (.slice A2 t.length c2) t ∧ Below w.heap.size w w' := by
  refine (listsS_all c A B n n cp cq ps qs w hT hn hnq hm hm hc hcq hl hlq hp hq).mono ?_
  rintro e w' ⟨x, y, b, rfl, ⟨rfl, rfl, rfl, h⟩ | ⟨rfl, h1, h2, h3, s, t, hbad, hs, ht, hx, hy⟩, hb⟩
  · exact absurd (h (hn.trans hnq.symm) hr) hne
  · obtain ⟨A1, c1, rfl, _⟩ := id hx
    obtain ⟨A2, c2, rfl, _⟩ := id hy
    exact ⟨A1, c1, A2, c2, s, t, rfl, hbad, hs, ht, hx.mono fun _ h => h.2, hy.mono fun _ h => h.2, hb⟩
theorem bad_pair {c : Int} {s t : List UInt8} (h : Bad c s t) : (s != t && (id32 (cutD c (sha s)) == id32 (cutD c (sha t)))) = true := by
  rw [Bool.and_eq_true, bne_iff_ne, beq_iff_eq]
  exact h
set_option maxRecDepth 100000 in
set_option maxHeartbeats 8000000 in
theorem lists_law_len (c : Int) (A B : Option Addr) (n m cp cq : Nat) (ps qs : List (List UInt8)) (w : World) (hT : Tables w) (hn : ps.length = n) (hnq : qs.length = m) (hm : n ≤ 140737488351232) (hmq : m ≤ 140737488351232) (hr : RdP w (fun b => b < w.heap.size) A ps) (hrq : RdP w (fun b => b < w.heap.size) B qs) (hcase : (fewL ps).length ≠ (fewL qs).length) :
    Calls Tryd.prog 8 #[.int .i64 c, .slice A n cp, .slice B m cq] w fun e w' => e = .returned (.bool true) ∧ Below w.heap.size w w' := by
  have HCU := Lib.hid (cuts_any w hT)
  have HFA : Hid (∀ W, Below w.heap.size w W → Calls Tryd.prog 19 #[.slice A n cp] W fun e w' => ∃ v4 v5, e = .returned (.tuple #[v4, v5]) ∧ OutAt w' W.heap.size v4 (fewL ps) ∧ TxtRow w' W.heap.size v5 (fewL ps) ∧ Below W.heap.size W w') := Lib.hid fun W hb => few_any A n cp ps W hn hm (hr.oldS hb)
  have HFB : Hid (∀ W, Below w.heap.size w W → Calls Tryd.prog 19 #[.slice B m cq] W fun e w' => ∃ v4 v5, e = .returned (.tuple #[v4, v5]) ∧ OutAt w' W.heap.size v4 (fewL qs) ∧ TxtRow w' W.heap.size v5 (fewL qs) ∧ Below W.heap.size W w') := Lib.hid fun W hb => few_any B m cq qs W hnq hmq (hrq.oldS hb)
  have hfl := fewL_length ps
  have hfe := fewL_each ps
  have hgl := fewL_length qs
  have hge := fewL_each qs
  obtain ⟨fs, hfs⟩ : ∃ fs, fewL ps = fs := ⟨_, rfl⟩
  obtain ⟨gs, hgs⟩ : ∃ gs, fewL qs = gs := ⟨_, rfl⟩
  rw [hfs] at HFA hfl hfe hcase
  rw [hgs] at HFB hgl hge hcase
  have HT := Lib.hid hT
  have HFE := Lib.hid hfe
  have HGE := Lib.hid hge
  have HFL := Lib.hid hfl
  have HGL := Lib.hid hgl
  have HC := Lib.hid hcase
  clear hr hrq hn hnq hm hmq hfs hgs hT hfe hge hfl hgl hcase
  go_enter Tryd.func8, Tryd.ntmps8
  go_upto_region 5 with (first
    | (go_at_call 18; refine HCU.out.mono ?_; rintro e W1 ⟨rfl, hb1⟩; have HB1 := Lib.hid hb1; clear hb1 HCU)
    | (go_at_call 19; refine (HFA.out _ HB1.out).mono ?_; rintro e W2 ⟨v4, v5, rfl, ho4, ho5, hb2⟩; have HO := Lib.hid (And.intro (ho4.rdP hb2.size) ho5.rdS); have HB2 := Lib.hid (HB1.out.trans (hb2.mono HB1.out.size)); clear hb2 ho4 ho5 HFA HB1)
    | (go_at_call 19; refine (HFB.out _ HB2.out).mono ?_; rintro e W3 ⟨v6, v7, rfl, ho6, ho7, hb3⟩; have HO3 := Lib.hid (And.intro (ho6.rdP hb3.size) ho7.rdS); have HB3 := Lib.hid (HB2.out.trans (hb3.mono HB2.out.size)); have HB23 := Lib.hid hb3; clear hb3 ho6 ho7 HFB))
  obtain ⟨⟨A4, c4, rfl, hc4, hr4⟩, ⟨A5, c5, rfl, hc5, hr5⟩⟩ := HO.out
  obtain ⟨⟨A6, c6, rfl, hc6, hr6⟩, ⟨A7, c7, rfl, hc7, hr7⟩⟩ := HO3.out
  replace hr4 := hr4.oldS HB23.out
  replace hr5 := hr5.oldS HB23.out
  clear HO HO3 HB2 HB23
  have hle : ∀ p ∈ fs, p.length ≤ 1000000 := fun p hp => Nat.le_trans (HFE.out p hp) (by omega)
  have hleg : ∀ p ∈ gs, p.length ≤ 1000000 := fun p hp => Nat.le_trans (HGE.out p hp) (by omega)
  have hT3 : Tables W3 := HT.out.below HB3.out
  obtain ⟨nf, hnf⟩ : ∃ nf, fs.length = nf := ⟨_, rfl⟩
  obtain ⟨ng, hng⟩ : ∃ ng, gs.length = ng := ⟨_, rfl⟩
  rw [hnf] at hc4 hc5 ⊢
  rw [hng] at hc6 hc7 ⊢
  have hnf20 : nf ≤ 20 := by have := HFL.out; omega
  have hng20 : ng ≤ 20 := by have := HGL.out; omega
  have HLI : Hid (Calls Tryd.prog 31 #[.int .i64 c, .slice A4 nf c4, .slice A6 ng c6] W3 fun e w' => e = .returned (.tuple #[.agg #[.slice none 0 0, .slice none 0 0], .bool false]) ∧ Below W3.heap.size W3 w') := Lib.hid (listsS_none c A4 A6 nf ng c4 c6 fs gs W3 hT3 hnf hng (by omega) (by omega) hc4 hc6 hle hleg hr4 hr6 (by have := HC.out; intro h; omega))
  have hnn : ((nf : Int) != (ng : Int)) = true := by have := HC.out; simp; omega
  clear hr4 hr5 hr6 hr7 hT3 hle hleg hnf hng hc4 hc5 hc6 hc7 hnf20 hng20
  go_upto_region 6 with (first
    | (go_at_call 31; refine HLI.out.mono ?_; rintro e W4 ⟨rfl, hb4⟩; have HB4 := Lib.hid hb4; clear hb4 HLI))
  generalize hW : World.alloc W4 _ = W5
  have hb5 : Below W4.heap.size W4 W5 := by rw [← hW]; exact (Below.refl _ _).alloc (Nat.le_refl _) _
  have k9 : Blk W5 W4.heap.size 62 #[.slice none 0 0, .slice none 0 0] := by rw [← hW]; exact Blk.newAt _ _ rfl rfl
  have HB5 := Lib.hid (HB4.out.trans (hb5.mono HB4.out.size))
  have HK := Lib.hid k9
  clear hW hb5
  have x0 : W5.cell? ⟨W4.heap.size, 0, none⟩ = some (.slice none 0 0) := by rw [k9.cell]; rfl
  have x1 : W5.cell? ⟨W4.heap.size, 1, none⟩ = some (.slice none 0 0) := by rw [k9.cell]; rfl
  clear k9
  go_wp2_with fail
  go_ret
  exact ⟨rfl, HB3.out.trans (HB5.out.mono HB3.out.size)⟩
set_option maxRecDepth 100000 in
set_option maxHeartbeats 8000000 in
theorem lists_law_root (c : Int) (A B : Option Addr) (n m cp cq : Nat) (ps qs : List (List UInt8)) (w : World) (hT : Tables w) (hn : ps.length = n) (hnq : qs.length = m) (hm : n ≤ 140737488351232) (hmq : m ≤ 140737488351232) (hr : RdP w (fun b => b < w.heap.size) A ps) (hrq : RdP w (fun b => b < w.heap.size) B qs) (hcase : (fewL ps).length = (fewL qs).length ∧ id32 (rootC c (fewL ps)) ≠ id32 (rootC c (fewL qs))) :
    Calls Tryd.prog 8 #[.int .i64 c, .slice A n cp, .slice B m cq] w fun e w' => e = .returned (.bool true) ∧ Below w.heap.size w w' := by
  have HCU := Lib.hid (cuts_any w hT)
  have HFA : Hid (∀ W, Below w.heap.size w W → Calls Tryd.prog 19 #[.slice A n cp] W fun e w' => ∃ v4 v5, e = .returned (.tuple #[v4, v5]) ∧ OutAt w' W.heap.size v4 (fewL ps) ∧ TxtRow w' W.heap.size v5 (fewL ps) ∧ Below W.heap.size W w') := Lib.hid fun W hb => few_any A n cp ps W hn hm (hr.oldS hb)
  have HFB : Hid (∀ W, Below w.heap.size w W → Calls Tryd.prog 19 #[.slice B m cq] W fun e w' => ∃ v4 v5, e = .returned (.tuple #[v4, v5]) ∧ OutAt w' W.heap.size v4 (fewL qs) ∧ TxtRow w' W.heap.size v5 (fewL qs) ∧ Below W.heap.size W w') := Lib.hid fun W hb => few_any B m cq qs W hnq hmq (hrq.oldS hb)
  have hfl := fewL_length ps
  have hfe := fewL_each ps
  have hgl := fewL_length qs
  have hge := fewL_each qs
  obtain ⟨fs, hfs⟩ : ∃ fs, fewL ps = fs := ⟨_, rfl⟩
  obtain ⟨gs, hgs⟩ : ∃ gs, fewL qs = gs := ⟨_, rfl⟩
  rw [hfs] at HFA hfl hfe hcase
  rw [hgs] at HFB hgl hge hcase
  have HT := Lib.hid hT
  have HFE := Lib.hid hfe
  have HGE := Lib.hid hge
  have HFL := Lib.hid hfl
  have HGL := Lib.hid hgl
  have HC := Lib.hid hcase
  clear hr hrq hn hnq hm hmq hfs hgs hT hfe hge hfl hgl hcase
  go_enter Tryd.func8, Tryd.ntmps8
  go_upto_region 5 with (first
    | (go_at_call 18; refine HCU.out.mono ?_; rintro e W1 ⟨rfl, hb1⟩; have HB1 := Lib.hid hb1; clear hb1 HCU)
    | (go_at_call 19; refine (HFA.out _ HB1.out).mono ?_; rintro e W2 ⟨v4, v5, rfl, ho4, ho5, hb2⟩; have HO := Lib.hid (And.intro (ho4.rdP hb2.size) ho5.rdS); have HB2 := Lib.hid (HB1.out.trans (hb2.mono HB1.out.size)); clear hb2 ho4 ho5 HFA HB1)
    | (go_at_call 19; refine (HFB.out _ HB2.out).mono ?_; rintro e W3 ⟨v6, v7, rfl, ho6, ho7, hb3⟩; have HO3 := Lib.hid (And.intro (ho6.rdP hb3.size) ho7.rdS); have HB3 := Lib.hid (HB2.out.trans (hb3.mono HB2.out.size)); have HB23 := Lib.hid hb3; clear hb3 ho6 ho7 HFB))
  obtain ⟨⟨A4, c4, rfl, hc4, hr4⟩, ⟨A5, c5, rfl, hc5, hr5⟩⟩ := HO.out
  obtain ⟨⟨A6, c6, rfl, hc6, hr6⟩, ⟨A7, c7, rfl, hc7, hr7⟩⟩ := HO3.out
  replace hr4 := hr4.oldS HB23.out
  replace hr5 := hr5.oldS HB23.out
  clear HO HO3 HB2 HB23
  have hle : ∀ p ∈ fs, p.length ≤ 1000000 := fun p hp => Nat.le_trans (HFE.out p hp) (by omega)
  have hleg : ∀ p ∈ gs, p.length ≤ 1000000 := fun p hp => Nat.le_trans (HGE.out p hp) (by omega)
  have hT3 : Tables W3 := HT.out.below HB3.out
  obtain ⟨nf, hnf⟩ : ∃ nf, fs.length = nf := ⟨_, rfl⟩
  obtain ⟨ng, hng⟩ : ∃ ng, gs.length = ng := ⟨_, rfl⟩
  rw [hnf] at hc4 hc5 ⊢
  rw [hng] at hc6 hc7 ⊢
  have hnf20 : nf ≤ 20 := by have := HFL.out; omega
  have hng20 : ng ≤ 20 := by have := HGL.out; omega
  have HLI : Hid (Calls Tryd.prog 31 #[.int .i64 c, .slice A4 nf c4, .slice A6 ng c6] W3 fun e w' => e = .returned (.tuple #[.agg #[.slice none 0 0, .slice none 0 0], .bool false]) ∧ Below W3.heap.size W3 w') := Lib.hid (listsS_none c A4 A6 nf ng c4 c6 fs gs W3 hT3 hnf hng (by omega) (by omega) hc4 hc6 hle hleg hr4 hr6 (by have := HC.out; exact fun _ h => absurd h this.2))
  have HRA : Hid (∀ W, Below W3.heap.size W3 W → Calls Tryd.prog 21 #[.int .i64 c, .slice A5 nf c5] W fun e w' => e = .returned (.agg (arr 32 fun i => bv (rootC c fs i))) ∧ Below W.heap.size W w') := Lib.hid fun W hb => refRootS_any c nf fs A5 c5 W hnf (by omega) hc5 hle (hr5.oldS hb)
  have HRB : Hid (∀ W, Below W3.heap.size W3 W → Calls Tryd.prog 21 #[.int .i64 c, .slice A7 ng c7] W fun e w' => e = .returned (.agg (arr 32 fun i => bv (rootC c gs i))) ∧ Below W.heap.size W w') := Lib.hid fun W hb => refRootS_any c ng gs A7 c7 W hng (by omega) hc7 hleg (hr7.oldS hb)
  have hq := fun W => neq_id (rootC c fs) (rootC c gs) W
  rw [show (id32 (rootC c fs) == id32 (rootC c gs)) = false from beq_eq_false_iff_ne.2 HC.out.2] at hq
  have hnn : ((nf : Int) != (ng : Int)) = false := by have := HC.out.1; simp; omega
  generalize rootC c fs = R1 at *
  generalize rootC c gs = R2 at *
  clear hr4 hr5 hr6 hr7 hT3 hle hleg hnf hng hc4 hc5 hc6 hc7 hnf20 hng20
  go_upto_region 6 with (first
    | (go_at_call 31; refine HLI.out.mono ?_; rintro e W4 ⟨rfl, hb4⟩; have HB4 := Lib.hid hb4; clear hb4 HLI))
  generalize hW : World.alloc W4 _ = W5
  have hb5 : Below W4.heap.size W4 W5 := by rw [← hW]; exact (Below.refl _ _).alloc (Nat.le_refl _) _
  have k9 : Blk W5 W4.heap.size 62 #[.slice none 0 0, .slice none 0 0] := by rw [← hW]; exact Blk.newAt _ _ rfl rfl
  have HB5 := Lib.hid (HB4.out.trans (hb5.mono HB4.out.size))
  have HK := Lib.hid k9
  clear hW hb5
  clear k9
  go_wp2_with (first
    | (go_at_call 21; refine (HRA.out _ HB5.out).mono ?_; rintro e W6 ⟨rfl, hb6⟩; have HB6 := Lib.hid (HB5.out.trans (hb6.mono HB5.out.size)); have HK6 := Lib.hid (HK.out.below hb6 HK.out.lt); clear hb6 HRA)
    | (go_at_call 21; refine (HRB.out _ HB6.out).mono ?_; rintro e W7 ⟨rfl, hb7⟩; have HB7 := Lib.hid (HB6.out.trans (hb7.mono HB6.out.size)); have k7 := HK6.out.below hb7 HK6.out.lt; have HK7 := Lib.hid k7; have x0 : W7.cell? ⟨W4.heap.size, 0, none⟩ = some (.slice none 0 0) := (by rw [k7.cell]; rfl); have x1 : W7.cell? ⟨W4.heap.size, 1, none⟩ = some (.slice none 0 0) := (by rw [k7.cell]; rfl); clear hb7 k7))
  go_ret
  exact ⟨rfl, HB3.out.trans (HB7.out.mono HB3.out.size)⟩
set_option maxRecDepth 100000 in
set_option maxHeartbeats 8000000 in
theorem lists_law_same (c : Int) (A B : Option Addr) (n m cp cq : Nat) (ps qs : List (List UInt8)) (w : World) (hT : Tables w) (hn : ps.length = n) (hnq : qs.length = m) (hm : n ≤ 140737488351232) (hmq : m ≤ 140737488351232) (hr : RdP w (fun b => b < w.heap.size) A ps) (hrq : RdP w (fun b => b < w.heap.size) B qs) (hcase : fewL ps = fewL qs) :
    Calls Tryd.prog 8 #[.int .i64 c, .slice A n cp, .slice B m cq] w fun e w' => e = .returned (.bool true) ∧ Below w.heap.size w w' := by
  have HCU := Lib.hid (cuts_any w hT)
  have HFA : Hid (∀ W, Below w.heap.size w W → Calls Tryd.prog 19 #[.slice A n cp] W fun e w' => ∃ v4 v5, e = .returned (.tuple #[v4, v5]) ∧ OutAt w' W.heap.size v4 (fewL ps) ∧ TxtRow w' W.heap.size v5 (fewL ps) ∧ Below W.heap.size W w') := Lib.hid fun W hb => few_any A n cp ps W hn hm (hr.oldS hb)
  have HFB : Hid (∀ W, Below w.heap.size w W → Calls Tryd.prog 19 #[.slice B m cq] W fun e w' => ∃ v4 v5, e = .returned (.tuple #[v4, v5]) ∧ OutAt w' W.heap.size v4 (fewL qs) ∧ TxtRow w' W.heap.size v5 (fewL qs) ∧ Below W.heap.size W w') := Lib.hid fun W hb => few_any B m cq qs W hnq hmq (hrq.oldS hb)
  have hfl := fewL_length ps
  have hfe := fewL_each ps
  have hgl := fewL_length qs
  have hge := fewL_each qs
  obtain ⟨fs, hfs⟩ : ∃ fs, fewL ps = fs := ⟨_, rfl⟩
  obtain ⟨gs, hgs⟩ : ∃ gs, fewL qs = gs := ⟨_, rfl⟩
  rw [hfs] at HFA hfl hfe hcase
  rw [hgs] at HFB hgl hge hcase
  have HT := Lib.hid hT
  have HFE := Lib.hid hfe
  have HGE := Lib.hid hge
  have HFL := Lib.hid hfl
  have HGL := Lib.hid hgl
  have HC := Lib.hid hcase
  clear hr hrq hn hnq hm hmq hfs hgs hT hfe hge hfl hgl hcase
  go_enter Tryd.func8, Tryd.ntmps8
  go_upto_region 5 with (first
    | (go_at_call 18; refine HCU.out.mono ?_; rintro e W1 ⟨rfl, hb1⟩; have HB1 := Lib.hid hb1; clear hb1 HCU)
    | (go_at_call 19; refine (HFA.out _ HB1.out).mono ?_; rintro e W2 ⟨v4, v5, rfl, ho4, ho5, hb2⟩; have HO := Lib.hid (And.intro (ho4.rdP hb2.size) ho5.rdS); have HB2 := Lib.hid (HB1.out.trans (hb2.mono HB1.out.size)); clear hb2 ho4 ho5 HFA HB1)
    | (go_at_call 19; refine (HFB.out _ HB2.out).mono ?_; rintro e W3 ⟨v6, v7, rfl, ho6, ho7, hb3⟩; have HO3 := Lib.hid (And.intro (ho6.rdP hb3.size) ho7.rdS); have HB3 := Lib.hid (HB2.out.trans (hb3.mono HB2.out.size)); have HB23 := Lib.hid hb3; clear hb3 ho6 ho7 HFB))
  obtain ⟨⟨A4, c4, rfl, hc4, hr4⟩, ⟨A5, c5, rfl, hc5, hr5⟩⟩ := HO.out
  obtain ⟨⟨A6, c6, rfl, hc6, hr6⟩, ⟨A7, c7, rfl, hc7, hr7⟩⟩ := HO3.out
  replace hr4 := hr4.oldS HB23.out
  replace hr5 := hr5.oldS HB23.out
  clear HO HO3 HB2 HB23
  have hle : ∀ p ∈ fs, p.length ≤ 1000000 := fun p hp => Nat.le_trans (HFE.out p hp) (by omega)
  have hleg : ∀ p ∈ gs, p.length ≤ 1000000 := fun p hp => Nat.le_trans (HGE.out p hp) (by omega)
  have hT3 : Tables W3 := HT.out.below HB3.out
  obtain ⟨nf, hnf⟩ : ∃ nf, fs.length = nf := ⟨_, rfl⟩
  obtain ⟨ng, hng⟩ : ∃ ng, gs.length = ng := ⟨_, rfl⟩
  rw [hnf] at hc4 hc5 ⊢
  rw [hng] at hc6 hc7 ⊢
  have hnf20 : nf ≤ 20 := by have := HFL.out; omega
  have hng20 : ng ≤ 20 := by have := HGL.out; omega
  have HLI : Hid (Calls Tryd.prog 31 #[.int .i64 c, .slice A4 nf c4, .slice A6 ng c6] W3 fun e w' => e = .returned (.tuple #[.agg #[.slice none 0 0, .slice none 0 0], .bool false]) ∧ Below W3.heap.size W3 w') := Lib.hid (listsS_none c A4 A6 nf ng c4 c6 fs gs W3 hT3 hnf hng (by omega) (by omega) hc4 hc6 hle hleg hr4 hr6 (by have := HC.out; exact fun _ _ => this))
  have HRA : Hid (∀ W, Below W3.heap.size W3 W → Calls Tryd.prog 21 #[.int .i64 c, .slice A5 nf c5] W fun e w' => e = .returned (.agg (arr 32 fun i => bv (rootC c fs i))) ∧ Below W.heap.size W w') := Lib.hid fun W hb => refRootS_any c nf fs A5 c5 W hnf (by omega) hc5 hle (hr5.oldS hb)
  have HRB : Hid (∀ W, Below W3.heap.size W3 W → Calls Tryd.prog 21 #[.int .i64 c, .slice A7 ng c7] W fun e w' => e = .returned (.agg (arr 32 fun i => bv (rootC c gs i))) ∧ Below W.heap.size W w') := Lib.hid fun W hb => refRootS_any c ng gs A7 c7 W hng (by omega) hc7 hleg (hr7.oldS hb)
  have hq := fun W => neq_id (rootC c fs) (rootC c gs) W
  rw [show (id32 (rootC c fs) == id32 (rootC c gs)) = true from by rw [HC.out]; simp] at hq
  simp only [Bool.not_true] at hq
  obtain rfl : nf = ng := by rw [← hnf, ← hng, HC.out]
  have HSM : Hid (∀ W, Below W3.heap.size W3 W → Calls Tryd.prog 32 #[.slice A5 nf c5, .slice A7 nf c7] W fun e w' => e = .returned (.bool true) ∧ Below W.heap.size W w') := Lib.hid fun W hb => by
    have := sameS_any A5 A7 nf c5 c7 fs gs W hnf hng (by omega) (hr5.oldS hb) (hr7.oldS hb)
    rw [show (fs == gs) = true from by rw [beq_iff_eq]; exact HC.out] at this
    exact this
  have hnn : ((nf : Int) != (nf : Int)) = false := by simp
  generalize rootC c fs = R1 at *
  generalize rootC c gs = R2 at *
  clear hr4 hr5 hr6 hr7 hT3 hle hleg hnf hng hc4 hc5 hc6 hc7 hnf20 hng20
  go_upto_region 6 with (first
    | (go_at_call 31; refine HLI.out.mono ?_; rintro e W4 ⟨rfl, hb4⟩; have HB4 := Lib.hid hb4; clear hb4 HLI))
  generalize hW : World.alloc W4 _ = W5
  have hb5 : Below W4.heap.size W4 W5 := by rw [← hW]; exact (Below.refl _ _).alloc (Nat.le_refl _) _
  have k9 : Blk W5 W4.heap.size 62 #[.slice none 0 0, .slice none 0 0] := by rw [← hW]; exact Blk.newAt _ _ rfl rfl
  have HB5 := Lib.hid (HB4.out.trans (hb5.mono HB4.out.size))
  have HK := Lib.hid k9
  clear hW hb5
  clear k9
  go_wp2_with (first
    | (go_at_call 21; refine (HRA.out _ HB5.out).mono ?_; rintro e W6 ⟨rfl, hb6⟩; have HB6 := Lib.hid (HB5.out.trans (hb6.mono HB5.out.size)); have HK6 := Lib.hid (HK.out.below hb6 HK.out.lt); clear hb6 HRA)
    | (go_at_call 21; refine (HRB.out _ HB6.out).mono ?_; rintro e W7 ⟨rfl, hb7⟩; have HB7 := Lib.hid (HB6.out.trans (hb7.mono HB6.out.size)); have k7 := HK6.out.below hb7 HK6.out.lt; have HK7 := Lib.hid k7; have x0 : W7.cell? ⟨W4.heap.size, 0, none⟩ = some (.slice none 0 0) := (by rw [k7.cell]; rfl); have x1 : W7.cell? ⟨W4.heap.size, 1, none⟩ = some (.slice none 0 0) := (by rw [k7.cell]; rfl); clear hb7 k7)
    | (go_at_call 32; refine (HSM.out _ HB7.out).mono ?_; rintro e W8 ⟨rfl, hb8⟩; have HB8 := Lib.hid (HB7.out.trans (hb8.mono HB7.out.size)); replace x0 := (hb8.cell (p := ⟨W4.heap.size, 0, none⟩) HK7.out.lt).trans x0; replace x1 := (hb8.cell (p := ⟨W4.heap.size, 1, none⟩) HK7.out.lt).trans x1; clear hb8))
  go_ret
  exact ⟨rfl, HB3.out.trans (HB8.out.mono HB3.out.size)⟩
set_option maxRecDepth 100000 in
set_option maxHeartbeats 8000000 in
theorem lists_law_pair (c : Int) (A B : Option Addr) (n m cp cq : Nat) (ps qs : List (List UInt8)) (w : World) (hT : Tables w) (hn : ps.length = n) (hnq : qs.length = m) (hm : n ≤ 140737488351232) (hmq : m ≤ 140737488351232) (hr : RdP w (fun b => b < w.heap.size) A ps) (hrq : RdP w (fun b => b < w.heap.size) B qs) (hcase : (fewL ps).length = (fewL qs).length ∧ id32 (rootC c (fewL ps)) = id32 (rootC c (fewL qs)) ∧ fewL ps ≠ fewL qs) :
    Calls Tryd.prog 8 #[.int .i64 c, .slice A n cp, .slice B m cq] w fun e w' => e = .returned (.bool true) ∧ Below w.heap.size w w' := by
  have HCU := Lib.hid (cuts_any w hT)
  have HFA : Hid (∀ W, Below w.heap.size w W → Calls Tryd.prog 19 #[.slice A n cp] W fun e w' => ∃ v4 v5, e = .returned (.tuple #[v4, v5]) ∧ OutAt w' W.heap.size v4 (fewL ps) ∧ TxtRow w' W.heap.size v5 (fewL ps) ∧ Below W.heap.size W w') := Lib.hid fun W hb => few_any A n cp ps W hn hm (hr.oldS hb)
  have HFB : Hid (∀ W, Below w.heap.size w W → Calls Tryd.prog 19 #[.slice B m cq] W fun e w' => ∃ v4 v5, e = .returned (.tuple #[v4, v5]) ∧ OutAt w' W.heap.size v4 (fewL qs) ∧ TxtRow w' W.heap.size v5 (fewL qs) ∧ Below W.heap.size W w') := Lib.hid fun W hb => few_any B m cq qs W hnq hmq (hrq.oldS hb)
  have hfl := fewL_length ps
  have hfe := fewL_each ps
  have hgl := fewL_length qs
  have hge := fewL_each qs
  obtain ⟨fs, hfs⟩ : ∃ fs, fewL ps = fs := ⟨_, rfl⟩
  obtain ⟨gs, hgs⟩ : ∃ gs, fewL qs = gs := ⟨_, rfl⟩
  rw [hfs] at HFA hfl hfe hcase
  rw [hgs] at HFB hgl hge hcase
  have HT := Lib.hid hT
  have HFE := Lib.hid hfe
  have HGE := Lib.hid hge
  have HFL := Lib.hid hfl
  have HGL := Lib.hid hgl
  have HC := Lib.hid hcase
  clear hr hrq hn hnq hm hmq hfs hgs hT hfe hge hfl hgl hcase
  go_enter Tryd.func8, Tryd.ntmps8
  go_upto_region 5 with (first
    | (go_at_call 18; refine HCU.out.mono ?_; rintro e W1 ⟨rfl, hb1⟩; have HB1 := Lib.hid hb1; clear hb1 HCU)
    | (go_at_call 19; refine (HFA.out _ HB1.out).mono ?_; rintro e W2 ⟨v4, v5, rfl, ho4, ho5, hb2⟩; have HO := Lib.hid (And.intro (ho4.rdP hb2.size) ho5.rdS); have HB2 := Lib.hid (HB1.out.trans (hb2.mono HB1.out.size)); clear hb2 ho4 ho5 HFA HB1)
    | (go_at_call 19; refine (HFB.out _ HB2.out).mono ?_; rintro e W3 ⟨v6, v7, rfl, ho6, ho7, hb3⟩; have HO3 := Lib.hid (And.intro (ho6.rdP hb3.size) ho7.rdS); have HB3 := Lib.hid (HB2.out.trans (hb3.mono HB2.out.size)); have HB23 := Lib.hid hb3; clear hb3 ho6 ho7 HFB))
  obtain ⟨⟨A4, c4, rfl, hc4, hr4⟩, ⟨A5, c5, rfl, hc5, hr5⟩⟩ := HO.out
  obtain ⟨⟨A6, c6, rfl, hc6, hr6⟩, ⟨A7, c7, rfl, hc7, hr7⟩⟩ := HO3.out
  replace hr4 := hr4.oldS HB23.out
  replace hr5 := hr5.oldS HB23.out
  clear HO HO3 HB2 HB23
  have hle : ∀ p ∈ fs, p.length ≤ 1000000 := fun p hp => Nat.le_trans (HFE.out p hp) (by omega)
  have hleg : ∀ p ∈ gs, p.length ≤ 1000000 := fun p hp => Nat.le_trans (HGE.out p hp) (by omega)
  have hT3 : Tables W3 := HT.out.below HB3.out
  obtain ⟨nf, hnf⟩ : ∃ nf, fs.length = nf := ⟨_, rfl⟩
  obtain ⟨ng, hng⟩ : ∃ ng, gs.length = ng := ⟨_, rfl⟩
  rw [hnf] at hc4 hc5 ⊢
  rw [hng] at hc6 hc7 ⊢
  have hnf20 : nf ≤ 20 := by have := HFL.out; omega
  have hng20 : ng ≤ 20 := by have := HGL.out; omega
  have HRA : Hid (∀ W, Below W3.heap.size W3 W → Calls Tryd.prog 21 #[.int .i64 c, .slice A5 nf c5] W fun e w' => e = .returned (.agg (arr 32 fun i => bv (rootC c fs i))) ∧ Below W.heap.size W w') := Lib.hid fun W hb => refRootS_any c nf fs A5 c5 W hnf (by omega) hc5 hle (hr5.oldS hb)
  have HRB : Hid (∀ W, Below W3.heap.size W3 W → Calls Tryd.prog 21 #[.int .i64 c, .slice A7 ng c7] W fun e w' => e = .returned (.agg (arr 32 fun i => bv (rootC c gs i))) ∧ Below W.heap.size W w') := Lib.hid fun W hb => refRootS_any c ng gs A7 c7 W hng (by omega) hc7 hleg (hr7.oldS hb)
  have hq := fun W => neq_id (rootC c fs) (rootC c gs) W
  rw [show (id32 (rootC c fs) == id32 (rootC c gs)) = true from by rw [beq_iff_eq]; exact HC.out.2.1] at hq
  simp only [Bool.not_true] at hq
  obtain rfl : nf = ng := by rw [← hnf, ← hng, HC.out.1]
  have HLI : Hid (Calls Tryd.prog 31 #[.int .i64 c, .slice A4 nf c4, .slice A6 nf c6] W3 fun e w' => ∃ A1 c1 A2 c2 s t, e = .returned (.tuple #[.agg #[.slice A1 s.length c1, .slice A2 t.length c2], .bool true]) ∧ Bad c s t ∧ s.length ≤ 1000001 ∧ t.length ≤ 1000001 ∧ RdB w' (fun b => b < w'.heap.size) (.slice A1 s.length c1) s ∧ RdB w' (fun b => b < w'.heap.size) (.slice A2 t.length c2) t ∧ Below W3.heap.size W3 w') := Lib.hid (listsS_some c A4 A6 nf c4 c6 fs gs W3 hT3 hnf hng (by omega) hc4 hc6 hle hleg hr4 hr6 HC.out.2.1 HC.out.2.2)
  have HSM : Hid (∀ W, Below W3.heap.size W3 W → Calls Tryd.prog 32 #[.slice A5 nf c5, .slice A7 nf c7] W fun e w' => e = .returned (.bool false) ∧ Below W.heap.size W w') := Lib.hid fun W hb => by
    have := sameS_any A5 A7 nf c5 c7 fs gs W hnf hng (by omega) (hr5.oldS hb) (hr7.oldS hb)
    rw [show (fs == gs) = false from beq_eq_false_iff_ne.2 HC.out.2.2] at this
    exact this
  have hnn : ((nf : Int) != (nf : Int)) = false := by simp
  generalize rootC c fs = R1 at *
  generalize rootC c gs = R2 at *
  clear hr4 hr5 hr6 hr7 hT3 hle hleg hnf hng hc4 hc5 hc6 hc7 hnf20 hng20
  go_upto_region 6 with (first
    | (go_at_call 31; refine HLI.out.mono ?_; rintro e W4 ⟨A1, c1, A2, c2, s, t, rfl, hbad, hs, ht, hrs, hrt, hb4⟩; have HB4 := Lib.hid hb4; have HBD := Lib.hid (And.intro hbad (And.intro hs (And.intro ht (And.intro hrs hrt)))); obtain ⟨n1, hn1⟩ : ∃ n1, s.length = n1 := ⟨_, rfl⟩; obtain ⟨n2, hn2⟩ : ∃ n2, t.length = n2 := ⟨_, rfl⟩; rw [hn1, hn2] at HBD; rw [hn1, hn2]; have HN1 := Lib.hid (And.intro hn1 hn2); clear hb4 HLI hbad hs ht hrs hrt hn1 hn2))
  generalize hW : World.alloc W4 _ = W5
  have hb5 : Below W4.heap.size W4 W5 := by rw [← hW]; exact (Below.refl _ _).alloc (Nat.le_refl _) _
  have k9 : Blk W5 W4.heap.size 62 #[.slice A1 n1 c1, .slice A2 n2 c2] := by rw [← hW]; exact Blk.newAt _ _ rfl rfl
  have HB5 := Lib.hid (HB4.out.trans (hb5.mono HB4.out.size))
  have HK := Lib.hid k9
  have HB45 := Lib.hid hb5
  clear hW hb5
  clear k9
  have HPR : Hid (∀ W, Below W5.heap.size W5 W → Calls Tryd.prog 33 #[.int .i64 c, .agg #[.slice A1 n1 c1, .slice A2 n2 c2]] W fun e w' => e = .returned (.bool true) ∧ Below W.heap.size W w') := Lib.hid fun W hb => by
    have hbx := HB45.out.trans (hb.mono HB45.out.size)
    obtain ⟨hbad, hs, ht, hrs, hrt⟩ := HBD.out
    have := pairS_any c A1 A2 n1 n2 c1 c2 s t W (by have := HN1.out; omega) (by have := HN1.out; omega) ((hrs.kept fun a x ha h => (hbx.cell (p := a) ha).trans h).mono fun b hb' => Nat.lt_of_lt_of_le hb' hbx.size) ((hrt.kept fun a x ha h => (hbx.cell (p := a) ha).trans h).mono fun b hb' => Nat.lt_of_lt_of_le hb' hbx.size)
    rw [bad_pair hbad] at this
    exact this
  have HX5 := Lib.hid (Below.refl W5.heap.size W5)
  go_wp2_with (first
    | (go_at_call 21; refine (HRA.out _ HB5.out).mono ?_; rintro e W6 ⟨rfl, hb6⟩; have HB6 := Lib.hid (HB5.out.trans (hb6.mono HB5.out.size)); have HX6 := Lib.hid (HX5.out.trans (hb6.mono (Nat.le_refl _))); have HK6 := Lib.hid (HK.out.below hb6 HK.out.lt); clear hb6 HRA)
    | (go_at_call 21; refine (HRB.out _ HB6.out).mono ?_; rintro e W7 ⟨rfl, hb7⟩; have HB7 := Lib.hid (HB6.out.trans (hb7.mono HB6.out.size)); have HX7 := Lib.hid (HX6.out.trans (hb7.mono HX6.out.size)); have HK7 := Lib.hid (HK6.out.below hb7 HK6.out.lt); clear hb7)
    | (go_at_call 32; refine (HSM.out _ HB7.out).mono ?_; rintro e W8 ⟨rfl, hb8⟩; have HB8 := Lib.hid (HB7.out.trans (hb8.mono HB7.out.size)); have HX8 := Lib.hid (HX7.out.trans (hb8.mono HX7.out.size)); have k8 := HK7.out.below hb8 HK7.out.lt; have x0 : W8.cell? ⟨W4.heap.size, 0, none⟩ = some (.slice A1 n1 c1) := (by rw [k8.cell]; rfl); have x1 : W8.cell? ⟨W4.heap.size, 1, none⟩ = some (.slice A2 n2 c2) := (by rw [k8.cell]; rfl); clear hb8 k8)
    | (go_at_call 33; refine (HPR.out _ HX8.out).mono ?_; rintro e W9 ⟨rfl, hb9⟩; have HB9 := Lib.hid (HB8.out.trans (hb9.mono HB8.out.size)); clear hb9))
  go_ret
  exact ⟨rfl, HB3.out.trans (HB9.out.mono HB3.out.size)⟩
theorem lists_law' (c : Int) (A : Option Addr) (cp : Nat) (ps : List (List UInt8)) (B : Option Addr) (cq : Nat) (qs : List (List UInt8)) (w : World) (hT : Tables w) (hm : ps.length ≤ 140737488351232) (hr : RdP w (fun b => b < w.heap.size) A ps) (hmq : qs.length ≤ 140737488351232) (hrq : RdP w (fun b => b < w.heap.size) B qs) :
    Calls Tryd.prog 8 #[.int .i64 c, .slice A ps.length cp, .slice B qs.length cq] w fun e w' => e = .returned (.bool true) ∧ Below w.heap.size w w' := by
  by_cases h1 : (fewL ps).length = (fewL qs).length
  · by_cases h2 : id32 (rootC c (fewL ps)) = id32 (rootC c (fewL qs))
    · by_cases h3 : fewL ps = fewL qs
      · exact lists_law_same c A B _ _ cp cq ps qs w hT rfl rfl hm hmq hr hrq h3
      · exact lists_law_pair c A B _ _ cp cq ps qs w hT rfl rfl hm hmq hr hrq ⟨h1, h2, h3⟩
    · exact lists_law_root c A B _ _ cp cq ps qs w hT rfl rfl hm hmq hr hrq ⟨h1, h2⟩
  · exact lists_law_len c A B _ _ cp cq ps qs w hT rfl rfl hm hmq hr hrq h1
end Go.Proofs.YtggffadildfnlaaDoor
