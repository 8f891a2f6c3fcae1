/-
  ShortEntry: of every cut, list, entry, place and way, in whatever memory in which the tables lie. No condition.
-/
import Derived.Test.YtlnapnbccojohaaDoorQEnt
import Derived.Test.YtlnapnbccojohaaDoorShLeads
import Derived.Test.YtlnapnbccojohaaDoorShRefL
import Derived.Test.YtlnapnbccojohaaDoorShGuard
import Derived.Test.YtlnapnbccojohaaDoorStrT
import Derived.Test.YtlnapnbccojohaaDoorShLawR
import Derived.Test.YtlnapnbccojohaaDoorShPS
namespace Go.Proofs.YtlnapnbccojohaaDoor
open Go Go.RowKit Go.Shelf TreeM

theorem cell_in {W : World} {g t : Nat} {cs : Array Value} (h : Blk W g t cs) {ad : Addr} (ha : ad.block = g) {x : Value} (hx : W.cell? ad = some x) : x ∈ cs.toList := by
  unfold Blk at h
  unfold World.cell? at hx
  rw [ha, h] at hx
  have h2 : ad.spot = none ∧ cs[ad.off]? = some x := by simpa using hx
  exact Array.mem_toList_iff.2 (Array.mem_of_getElem? h2.2)
theorem RdB.notBox {W : World} {ok : Nat → Prop} {v : Value} {bs : List UInt8} (h : RdB W ok v bs) {g t : Nat} {a : Int} {A1 A2 : Option Addr} {n1 c1 n2 c2 : Nat} (hk : Blk W g t #[.int .i64 a, .slice A1 n1 c1, .slice A2 n2 c2]) : RdB W (fun b => ok b ∧ b ≠ g) v bs := by
  obtain ⟨Aq, c, hv, h1, h2, h3⟩ := h
  refine ⟨Aq, c, hv, h1, h2, fun h0 => ?_⟩
  obtain ⟨ad, hA, hok, hc⟩ := h3 h0
  refine ⟨ad, hA, ⟨hok, fun e => ?_⟩, hc⟩
  have h9 := cell_in hk (ad := ad.add 0) (by rw [block_add]; exact e) (hc 0 h0)
  simp [bv] at h9
theorem OutAt.stored {W W' : World} {B : Nat} {v : Value} {ts : List (List UInt8)} (h : OutAt W B v ts) {g t : Nat} {a : Int} {A1 A2 : Option Addr} {n1 c1 n2 c2 : Nat} (hk : Blk W g t #[.int .i64 a, .slice A1 n1 c1, .slice A2 n2 c2]) (hg : g < B) (hw : ∀ b, b ≠ g → W'.heap[b]? = W.heap[b]?) : OutAt W' B v ts := by
  obtain ⟨vs, h1, h3⟩ := h
  refine ⟨vs, ⟨h1.1, ?_⟩, fun k hkk => ?_⟩
  · rcases h1.2 with hn | ⟨g', cap, cur, hv, hb, hgg, rest⟩
    · exact .inl hn
    · exact .inr ⟨g', cap, cur, hv, hb, (hw g' (by omega)).trans hgg, rest⟩
  · obtain ⟨u, hu, hr⟩ := h3 k hkk
    exact ⟨u, hu, ((hr.notBox hk).kept fun p x ha hx => (World.cell?_of_block (hw _ ha.2)).trans hx).mono fun b hb => hb.1⟩
theorem TxtRow.stored {W W' : World} {B : Nat} {v : Value} {ts : List (List UInt8)} (h : TxtRow W B v ts) {g : Nat} (hg : g < B) (hw : ∀ b, b ≠ g → W'.heap[b]? = W.heap[b]?) : TxtRow W' B v ts := by
  refine ⟨h.1, ?_⟩
  rcases h.2 with hn | ⟨g', cap, cur, hv, hb, hgg, rest⟩
  · exact .inl hn
  · exact .inr ⟨g', cap, cur, hv, hb, (hw g' (by omega)).trans hgg, rest⟩
theorem shown_cells {W : World} {g t : Nat} {a : Int} {x y : Value} (h : Blk W g t #[.int .i64 a, x, y]) : W.cell? ⟨g, 0, none⟩ = some (.int .i64 a) ∧ W.cell? ⟨g, 1, none⟩ = some x ∧ W.cell? ⟨g, 2, none⟩ = some y := by
  refine ⟨?_, ?_, ?_⟩ <;> rw [h.cell] <;> rfl
set_option maxRecDepth 100000 in
set_option maxHeartbeats 8000000 in
theorem entry_long (c : Int) (A : Option Addr) (n cp : Nat) (a : Int) (Ae : Option Addr) (ne ce : Nat) (Ap : Option Addr) (np cpp : Nat) (path : List D) (w : World) (hT : Tables w) (hnp : path.length = np) (h : 70 < path.length) :
    Calls Tryd.prog 9 #[.int .i64 c, .slice A n cp, .agg #[.int .i64 a, .slice Ae ne ce, .slice Ap np cpp]] w fun e w' => e = .returned (.bool true) ∧ Below w.heap.size w w' := by
  have hb0 : Below w.heap.size w (w.alloc (.cells #[.int .i64 a, .slice Ae ne ce, .slice Ap np cpp] 69)) := (Below.refl _ _).alloc (Nat.le_refl _) _
  have hk0 : Blk (w.alloc (.cells #[.int .i64 a, .slice Ae ne ce, .slice Ap np cpp] 69)) w.heap.size 69 #[.int .i64 a, .slice Ae ne ce, .slice Ap np cpp] := Blk.new w _ _
  have HTB := Lib.hid (hT.below hb0)
  have HT := Lib.hid hT
  have HK0 := Lib.hid hk0
  have HB0 := Lib.hid hb0
  obtain ⟨W0, hW0⟩ : ∃ W0, w.alloc (.cells #[.int .i64 a, .slice Ae ne ce, .slice Ap np cpp] 69) = W0 := ⟨_, rfl⟩
  rw [hW0] at HTB HK0 HB0
  have h70 : 70 < (np : Int) := by omega
  clear hT hnp h hb0 hk0 HT
  go_enter Tryd.func9, Tryd.ntmps9
  go_upto_region 1 with fail
  try rw [hW0]
  clear hW0
  go_upto_region 3 with (go_at_call 18; refine (cuts_any _ HTB.out).mono ?_; rintro e W1 ⟨rfl, hb1⟩; have k1 := HK0.out.below hb1 HK0.out.lt; obtain ⟨cA, cE, cP⟩ := shown_cells k1; have HB1 := Lib.hid (HB0.out.trans (hb1.mono HB0.out.size)); have HK1 := Lib.hid k1; clear hb1 k1)
  go_wp2_with fail
  go_ret
  exact ⟨rfl, HB1.out⟩
theorem out_slice {W : World} {B : Nat} {v : Value} {ts : List (List UInt8)} (h : OutAt W B v ts) : ∃ A c, v = .slice A ts.length c ∧ ts.length ≤ c := by
  obtain ⟨vs, h1, _⟩ := h
  exact own_len h1
theorem txt_slice {W : World} {B : Nat} {v : Value} {ts : List (List UInt8)} (h : TxtRow W B v ts) : ∃ A c, v = .slice A ts.length c ∧ ts.length ≤ c := own_len h
section
variable {P : Program} {ops : Array Oper} {S : World → Prop} {op : Oper} {a : Act}
theorem yields_runE (hw : Region.wanted op (yielded ops a.tmps) = true) (ty : TypeId) (x : Operand) (ho : op.op = .load ty x) (p v : Value) (hx : a.eval x = p)
    (hS : ∀ w, S w → (Instr.loadAt ty p).run P w = .ok v w) : YieldsIf P ops S op v a :=
  .inl ⟨hw, fun w hw' => by
    have hl := hS w hw'
    unfold execOp
    simp only [ho, hx, Sem.run_bind, hl, Sem.run_pure, Result.andThen_ok]⟩
theorem yields_oneE (hw : Region.wanted op (yielded ops a.tmps) = true) (ty : TypeId) (x : Operand) (ho : op.op = .load ty x)
    (ad : Addr) (hx : a.eval x = .pointer (some ad)) (v : Value) (d : TypeDesc) (hS : ∀ w, S w → w.cell? ad = some v)
    (hu : P.underlying ty = some d) (hd : (match d with | .struct _ | .array _ _ => true | _ => false) = false) : YieldsIf P ops S op v a :=
  .inl ⟨hw, fun w hw' => by
    have hl : (Instr.loadAt ty (.pointer (some ad))).run P w = .ok v w := loadVar_one hu hd (hS w hw')
    unfold execOp
    simp only [ho, hx, Sem.run_bind, hl, Sem.run_pure, Result.andThen_ok]⟩
theorem yields_binE (hw : Region.wanted op (yielded ops a.tmps) = true) (bop : BinOp) (t rt : TypeId) (x y : Operand) (ho : op.op = .binOp bop t x y rt)
    (vx vy : Value) (hx : a.eval x = vx) (hy : a.eval y = vy) (v : Value) (hg : ∀ w, (eqGuard bop t x y vx vy).run P w = .ok () w) (hrun : ∀ w, (binOp bop t vx vy).run P w = .ok v w) : YieldsIf P ops S op v a :=
  .inl ⟨hw, fun w _ => by
    unfold execOp
    simp only [ho, hx, hy, Sem.run_bind, hg, hrun, Sem.run_pure, Result.andThen_ok]⟩
theorem yields_indexE (hw : Region.wanted op (yielded ops a.tmps) = true) (t : TypeId) (x y : Operand) (ho : op.op = .indexAddr t x y) (vx vy v : Value) (hx : a.eval x = vx) (hy : a.eval y = vy) (hrun : ∀ w, (Instr.indexAt t vx vy).run P w = .ok v w) : YieldsIf P ops S op v a :=
  .inl ⟨hw, fun w _ => by
    unfold execOp
    simp only [ho, hx, hy, Sem.run_bind, hrun, Sem.run_pure, Result.andThen_ok]⟩
end
theorem eql_strE (s : ByteArray) (w : World) : (binOp .eql 9 (.string s) (.string s)).run Tryd.prog w = .ok (.bool true) w := by
  show (Op.stringOp .eql s s).run Tryd.prog w = _
  simp [Op.stringOp]
theorem index_strs (ad : Addr) (n c i : Nat) (hi : i < n) (w : World) : (Instr.indexAt 40 (.slice (some ad) n c) (.int .i64 (i : Int))).run Tryd.prog w = .ok (.pointer (some (ad.add i))) w := by
  have hk1 : (i : Int) < (n : Int) := by omega
  have hu := Tryd.underlying40
  simp [Instr.indexAt, run_underlying hu, hi, go_sem]
theorem guard_idE (x y : Operand) (f g : D) (w : World) : (eqGuard .neq 23 x y (.agg (arr 32 fun i => bv (f i))) (.agg (arr 32 fun i => bv (g i)))).run Tryd.prog w = .ok () w := by
  simp [eqGuard, go_sem]
theorem entry_none {c : Int} {w W : World} {x y : Value} {b : Bool} {own entry : List UInt8} {way path : List D} (h : EntryIs c w W x y b false own entry way path) : b = false ∧ x = .slice none 0 0 ∧ y = .slice none 0 0 := by
  rcases h with ⟨h1, h2, h3, _⟩ | ⟨_, h1, _⟩
  · exact ⟨h1, h2, h3⟩
  · cases h1
set_option maxRecDepth 100000 in
set_option maxHeartbeats 8000000 in
theorem entry_lo (c : Int) (A : Option Addr) (n cp : Nat) (ps : List (List UInt8)) (a : Int) (Ae : Option Addr) (ne ce : Nat) (entry : List UInt8) (Ap : Option Addr) (np cpp : Nat) (path : List D) (w : World) (hT : Tables w) (hn : ps.length = n) (hm : n ≤ 140737488351232) (hr : RdP w (fun b => b < w.heap.size) A ps)
    (hne : entry.length = ne) (he : RdB w (fun b => b < w.heap.size) (.slice Ae ne ce) entry) (hnp : path.length = np) (hp : RdI w (fun b => b < w.heap.size) (.slice Ap np cpp) path) (h : path.length ≤ 70) (hcase : a < 0) :
    Calls Tryd.prog 9 #[.int .i64 c, .slice A n cp, .agg #[.int .i64 a, .slice Ae ne ce, .slice Ap np cpp]] w fun e w' => e = .returned (.bool true) ∧ Below w.heap.size w w' := by
  have hb0 : Below w.heap.size w (w.alloc (.cells #[.int .i64 a, .slice Ae ne ce, .slice Ap np cpp] 69)) := (Below.refl _ _).alloc (Nat.le_refl _) _
  have hk0 : Blk (w.alloc (.cells #[.int .i64 a, .slice Ae ne ce, .slice Ap np cpp] 69)) w.heap.size 69 #[.int .i64 a, .slice Ae ne ce, .slice Ap np cpp] := Blk.new w _ _
  have HTB := Lib.hid (hT.below hb0)
  have HT := Lib.hid hT
  have HK0 := Lib.hid hk0
  have HB0 := Lib.hid hb0
  obtain ⟨W0, hW0⟩ : ∃ W0, w.alloc (.cells #[.int .i64 a, .slice Ae ne ce, .slice Ap np cpp] 69) = W0 := ⟨_, rfl⟩
  rw [hW0] at HTB HK0 HB0
  have HFW : Hid (∀ W, Below w.heap.size w W → Calls Tryd.prog 19 #[.slice A n cp] W fun e w' => ∃ v4 v5, e = .returned (.tuple #[v4, v5]) ∧ OutAt w' W.heap.size v4 (fewL ps) ∧ TxtRow w' W.heap.size v5 (fewL ps) ∧ Below W.heap.size W w') := Lib.hid fun W hb => few_any A n cp ps W hn hm (hr.oldS hb)
  have hfl := fewL_length ps
  have hfe := fewL_each ps
  obtain ⟨fs, hfs⟩ : ∃ fs, fewL ps = fs := ⟨_, rfl⟩
  rw [hfs] at HFW hfl hfe
  have HFE := Lib.hid hfe
  have HFL := Lib.hid hfl
  have h70 : ¬ 70 < (np : Int) := by omega
  obtain ⟨_, _, eE, hle, _, _⟩ := id he
  obtain ⟨-, -, e3⟩ := Value.slice.inj eE
  have hlc : ne ≤ ce := by rw [e3]; omega
  clear eE e3 hle
  obtain ⟨m, hmd⟩ : ∃ m, min ne 100 = m := ⟨_, rfl⟩
  have hm1 : m ≤ ne := by rw [← hmd]; exact Nat.min_le_left _ _
  have hm100 : m ≤ 100 := by rw [← hmd]; exact Nat.min_le_right _ _
  have hmin : min (ne : Int) 100 = (m : Int) := by omega
  have hsl : ∀ W, (Instr.sliceAt 50 (.slice Ae ne ce) none (some (.int .i64 (m : Int))) none).run Tryd.prog W = .ok (.slice Ae m ce) W := fun W => run_slice_to (P := Tryd.prog) 50 5 Tryd.underlying50 (by kernel_rfl) Ae ne ce m (by omega) W
  have he1 : RdB w (fun b => b < w.heap.size) (.slice Ae m ce) (entry.take m) := by
    obtain ⟨A', c', e, h1, h2, h3⟩ := he
    injection e with e1 e2 e3
    subst e1; subst e3
    have hl : (entry.take m).length = m := by rw [List.length_take]; omega
    refine ⟨Ae, ce, by rw [hl], by rw [hl]; omega, by rw [hl]; omega, fun h0 => ?_⟩
    obtain ⟨ad, e, hok, hc⟩ := h3 (by omega)
    refine ⟨ad, e, hok, fun j hj => ?_⟩
    rw [hl] at hj
    rw [hc j (by omega), List.getD_eq_getElem?_getD, List.getD_eq_getElem?_getD, List.getElem?_take, if_pos hj]
  have hl1 : (entry.take m).length = m := by rw [List.length_take]; omega
  have hE100 : entry.take m = entry.take 100 := by
    rw [← hmd, ← hne, Nat.min_comm]
    exact (List.take_eq_take_min (l := entry) (i := 100)).symm
  obtain ⟨E, hE⟩ : ∃ E, entry.take m = E := ⟨_, rfl⟩
  rw [hE] at he1 hl1 hE100
  have HCASE := Lib.hid hcase
  have HE1 := Lib.hid he1
  have HL1 := Lib.hid hl1
  have HNP := Lib.hid hnp
  have HPP := Lib.hid hp
  have H100 := Lib.hid hm100
  clear hT hn hm hr hne he hnp hp h hb0 hk0 hfs hfl hfe hmd hm1 hm100 hlc hl1 he1 hE hE100 hcase
  go_enter Tryd.func9, Tryd.ntmps9
  go_upto_region 1 with fail
  try rw [hW0]
  clear hW0
  go_upto_region 3 with (go_at_call 18; refine (cuts_any _ HTB.out).mono ?_; rintro e W1 ⟨rfl, hb1⟩; have k1 := HK0.out.below hb1 HK0.out.lt; obtain ⟨cA, cE, cP⟩ := shown_cells k1; have HB1 := Lib.hid (HB0.out.trans (hb1.mono HB0.out.size)); have HK1 := Lib.hid k1; clear hb1 k1)
  go_upto_region 6 with (go_at_call 19; refine (HFW.out _ HB1.out).mono ?_; rintro e W2 ⟨v4, v5, rfl, ho4, ho5, hb2⟩; have k2 := HK1.out.below hb2 HK1.out.lt; clear cA cE cP; obtain ⟨cA, cE, cP⟩ := shown_cells k2; have hf2 : W2.frozen? ⟨w.heap.size, 1, none⟩ = false := k2.frozen 1; have HB2 := Lib.hid (HB1.out.trans (hb2.mono HB1.out.size)); have HS2 := Lib.hid hb2.size; have HO4 := Lib.hid ho4; have HO5 := Lib.hid ho5; have HK2 := Lib.hid k2; clear hb2 k2 ho4 ho5 HFW)
  obtain ⟨A4, c4, e4, hc4⟩ := out_slice HO4.out
  obtain ⟨A5, c5, e5, hc5⟩ := txt_slice HO5.out
  subst e4 e5
  go_upto_region 7 with fail
  obtain ⟨W3, hW3⟩ : ∃ W3, W2.setCell ⟨w.heap.size, 1, none⟩ (.slice Ae m ce) = W3 := ⟨_, rfl⟩
  have k3 : Blk W3 w.heap.size 69 #[.int .i64 a, .slice Ae m ce, .slice Ap np cpp] := by rw [← hW3]; exact (HK2.out.store 1 (.slice Ae m ce)).same rfl
  have hoth : ∀ b, b ≠ w.heap.size → W3.heap[b]? = W2.heap[b]? := fun b hb => by rw [← hW3]; exact Below.heap_setCell W2 _ _ b hb
  have hsz3 : W3.heap.size = W2.heap.size := by rw [← hW3]; exact World.size_setCell ..
  have hb3 : Below w.heap.size w W3 := by rw [← hW3]; exact HB2.out.setCell (Nat.le_refl _) _
  rw [hW3]
  have HG1 : Hid (w.heap.size < W1.heap.size) := Lib.hid HK1.out.lt
  have HO4b := Lib.hid (HO4.out.stored HK2.out HG1.out hoth)
  have HO5b := Lib.hid (HO5.out.stored HG1.out hoth)
  have HS12 : Hid (W1.heap.size ≤ W3.heap.size) := Lib.hid (by rw [hsz3]; exact HS2.out)
  have hr4 : RdP W3 (fun b => b < W3.heap.size) A4 fs := by
    obtain ⟨A', c', e, _, h9⟩ := HO4b.out.rdP HS12.out
    obtain ⟨rfl, -, -⟩ := Value.slice.inj e
    exact h9
  have hr5 : RdS W3 A5 fs := by
    obtain ⟨A', c', e, _, h9⟩ := HO5b.out.rdS
    obtain ⟨rfl, -, -⟩ := Value.slice.inj e
    exact h9
  have HR4 := Lib.hid hr4
  have HR5 := Lib.hid hr5
  have HK3 := Lib.hid k3
  have HB3 := Lib.hid hb3
  have HT3 := Lib.hid (HT.out.below hb3)
  have hle : ∀ p ∈ fs, p.length ≤ 1000000 := fun p hp => Nat.le_trans (HFE.out p hp) (by omega)
  have HLE := Lib.hid hle
  obtain ⟨nf, hnf⟩ : ∃ nf, fs.length = nf := ⟨_, rfl⟩
  rw [hnf] at hc4 hc5 ⊢
  have HNF := Lib.hid hnf
  have hnf20 : nf ≤ 20 := by have := HFL.out; omega
  have HN20 := Lib.hid hnf20
  have HC4 := Lib.hid hc4
  have HC5 := Lib.hid hc5
  have HE3 : Hid (RdB W3 (fun b => b < W3.heap.size) (.slice Ae m ce) E) := Lib.hid ((HE1.out.kept fun a x ha h => (hb3.cell (p := a) ha).trans h).mono fun b hb' => Nat.lt_of_lt_of_le hb' hb3.size)
  have HP3 : Hid (RdI W3 (fun b => b < W3.heap.size) (.slice Ap np cpp) path) := Lib.hid ((HPP.out.old hb3).mono fun b hb' => Nat.lt_of_lt_of_le hb' hb3.size)
  clear cA cE cP hf2 hW3 hoth hsz3 hr4 hr5 hle hnf k3 hb3
  obtain ⟨cA, cE, cP⟩ := shown_cells HK3.out
  have HENR : Hid (Calls Tryd.prog 34 #[.int .i64 c, .slice A4 nf c4, .slice Ae m ce, .int .i64 a, .slice Ap np cpp] W3 fun e w' => e = .returned (.tuple #[.agg #[.slice none 0 0, .slice none 0 0], .bool false]) ∧ Below W3.heap.size W3 w') := Lib.hid (entryS_range c A4 nf c4 _ a _ W3 (by have := HCASE.out; have := HNF.out; omega))
  go_upto_region 8 with (go_at_call 34; refine HENR.out.mono ?_; rintro e W4 ⟨rfl, hb4⟩; have HB4 := Lib.hid (HB3.out.trans (hb4.mono HB3.out.size)); have HB34 := Lib.hid hb4; have HK4 := Lib.hid (HK3.out.below hb4 HK3.out.lt); clear hb4 cA cE cP)
  generalize hW : World.alloc W4 _ = W5
  have hb5 : Below W4.heap.size W4 W5 := by rw [← hW]; exact (Below.refl _ _).alloc (Nat.le_refl _) _
  have k9 : Blk W5 W4.heap.size 62 #[.slice none 0 0, .slice none 0 0] := by rw [← hW]; exact Blk.newAt _ _ rfl rfl
  have HB5 := Lib.hid (HB4.out.trans (hb5.mono HB4.out.size))
  have HB35 := Lib.hid (HB34.out.trans (hb5.mono HB34.out.size))
  have k5 : Blk W5 w.heap.size 69 #[.int .i64 a, .slice Ae m ce, .slice Ap np cpp] := HK4.out.below hb5 HK4.out.lt
  have HK5 := Lib.hid k5
  have HKP := Lib.hid k9
  have HBX := Lib.hid hb5
  obtain ⟨cA, cE, cP⟩ := shown_cells k5
  clear hW hb5 k5 k9
  have hlo := HCASE.out
  have d0 : decide (a < 0) = true := decide_eq_true hlo
  have d0b : a < 0 := hlo
  clear hlo
  go_wp2_with fail
  go_ret
  exact ⟨rfl, HB5.out⟩
set_option maxRecDepth 100000 in
set_option maxHeartbeats 8000000 in
theorem entry_hi (c : Int) (A : Option Addr) (n cp : Nat) (ps : List (List UInt8)) (a : Int) (Ae : Option Addr) (ne ce : Nat) (entry : List UInt8) (Ap : Option Addr) (np cpp : Nat) (path : List D) (w : World) (hT : Tables w) (hn : ps.length = n) (hm : n ≤ 140737488351232) (hr : RdP w (fun b => b < w.heap.size) A ps)
    (hne : entry.length = ne) (he : RdB w (fun b => b < w.heap.size) (.slice Ae ne ce) entry) (hnp : path.length = np) (hp : RdI w (fun b => b < w.heap.size) (.slice Ap np cpp) path) (h : path.length ≤ 70) (hcase : ¬ a < 0 ∧ ((fewL ps).length : Int) ≤ a) :
    Calls Tryd.prog 9 #[.int .i64 c, .slice A n cp, .agg #[.int .i64 a, .slice Ae ne ce, .slice Ap np cpp]] w fun e w' => e = .returned (.bool true) ∧ Below w.heap.size w w' := by
  have hb0 : Below w.heap.size w (w.alloc (.cells #[.int .i64 a, .slice Ae ne ce, .slice Ap np cpp] 69)) := (Below.refl _ _).alloc (Nat.le_refl _) _
  have hk0 : Blk (w.alloc (.cells #[.int .i64 a, .slice Ae ne ce, .slice Ap np cpp] 69)) w.heap.size 69 #[.int .i64 a, .slice Ae ne ce, .slice Ap np cpp] := Blk.new w _ _
  have HTB := Lib.hid (hT.below hb0)
  have HT := Lib.hid hT
  have HK0 := Lib.hid hk0
  have HB0 := Lib.hid hb0
  obtain ⟨W0, hW0⟩ : ∃ W0, w.alloc (.cells #[.int .i64 a, .slice Ae ne ce, .slice Ap np cpp] 69) = W0 := ⟨_, rfl⟩
  rw [hW0] at HTB HK0 HB0
  have HFW : Hid (∀ W, Below w.heap.size w W → Calls Tryd.prog 19 #[.slice A n cp] W fun e w' => ∃ v4 v5, e = .returned (.tuple #[v4, v5]) ∧ OutAt w' W.heap.size v4 (fewL ps) ∧ TxtRow w' W.heap.size v5 (fewL ps) ∧ Below W.heap.size W w') := Lib.hid fun W hb => few_any A n cp ps W hn hm (hr.oldS hb)
  have hfl := fewL_length ps
  have hfe := fewL_each ps
  obtain ⟨fs, hfs⟩ : ∃ fs, fewL ps = fs := ⟨_, rfl⟩
  rw [hfs] at HFW hfl hfe hcase
  have HFE := Lib.hid hfe
  have HFL := Lib.hid hfl
  have h70 : ¬ 70 < (np : Int) := by omega
  obtain ⟨_, _, eE, hle, _, _⟩ := id he
  obtain ⟨-, -, e3⟩ := Value.slice.inj eE
  have hlc : ne ≤ ce := by rw [e3]; omega
  clear eE e3 hle
  obtain ⟨m, hmd⟩ : ∃ m, min ne 100 = m := ⟨_, rfl⟩
  have hm1 : m ≤ ne := by rw [← hmd]; exact Nat.min_le_left _ _
  have hm100 : m ≤ 100 := by rw [← hmd]; exact Nat.min_le_right _ _
  have hmin : min (ne : Int) 100 = (m : Int) := by omega
  have hsl : ∀ W, (Instr.sliceAt 50 (.slice Ae ne ce) none (some (.int .i64 (m : Int))) none).run Tryd.prog W = .ok (.slice Ae m ce) W := fun W => run_slice_to (P := Tryd.prog) 50 5 Tryd.underlying50 (by kernel_rfl) Ae ne ce m (by omega) W
  have he1 : RdB w (fun b => b < w.heap.size) (.slice Ae m ce) (entry.take m) := by
    obtain ⟨A', c', e, h1, h2, h3⟩ := he
    injection e with e1 e2 e3
    subst e1; subst e3
    have hl : (entry.take m).length = m := by rw [List.length_take]; omega
    refine ⟨Ae, ce, by rw [hl], by rw [hl]; omega, by rw [hl]; omega, fun h0 => ?_⟩
    obtain ⟨ad, e, hok, hc⟩ := h3 (by omega)
    refine ⟨ad, e, hok, fun j hj => ?_⟩
    rw [hl] at hj
    rw [hc j (by omega), List.getD_eq_getElem?_getD, List.getD_eq_getElem?_getD, List.getElem?_take, if_pos hj]
  have hl1 : (entry.take m).length = m := by rw [List.length_take]; omega
  have hE100 : entry.take m = entry.take 100 := by
    rw [← hmd, ← hne, Nat.min_comm]
    exact (List.take_eq_take_min (l := entry) (i := 100)).symm
  obtain ⟨E, hE⟩ : ∃ E, entry.take m = E := ⟨_, rfl⟩
  rw [hE] at he1 hl1 hE100
  have HCASE := Lib.hid hcase
  have HE1 := Lib.hid he1
  have HL1 := Lib.hid hl1
  have HNP := Lib.hid hnp
  have HPP := Lib.hid hp
  have H100 := Lib.hid hm100
  clear hT hn hm hr hne he hnp hp h hb0 hk0 hfs hfl hfe hmd hm1 hm100 hlc hl1 he1 hE hE100 hcase
  go_enter Tryd.func9, Tryd.ntmps9
  go_upto_region 1 with fail
  try rw [hW0]
  clear hW0
  go_upto_region 3 with (go_at_call 18; refine (cuts_any _ HTB.out).mono ?_; rintro e W1 ⟨rfl, hb1⟩; have k1 := HK0.out.below hb1 HK0.out.lt; obtain ⟨cA, cE, cP⟩ := shown_cells k1; have HB1 := Lib.hid (HB0.out.trans (hb1.mono HB0.out.size)); have HK1 := Lib.hid k1; clear hb1 k1)
  go_upto_region 6 with (go_at_call 19; refine (HFW.out _ HB1.out).mono ?_; rintro e W2 ⟨v4, v5, rfl, ho4, ho5, hb2⟩; have k2 := HK1.out.below hb2 HK1.out.lt; clear cA cE cP; obtain ⟨cA, cE, cP⟩ := shown_cells k2; have hf2 : W2.frozen? ⟨w.heap.size, 1, none⟩ = false := k2.frozen 1; have HB2 := Lib.hid (HB1.out.trans (hb2.mono HB1.out.size)); have HS2 := Lib.hid hb2.size; have HO4 := Lib.hid ho4; have HO5 := Lib.hid ho5; have HK2 := Lib.hid k2; clear hb2 k2 ho4 ho5 HFW)
  obtain ⟨A4, c4, e4, hc4⟩ := out_slice HO4.out
  obtain ⟨A5, c5, e5, hc5⟩ := txt_slice HO5.out
  subst e4 e5
  go_upto_region 7 with fail
  obtain ⟨W3, hW3⟩ : ∃ W3, W2.setCell ⟨w.heap.size, 1, none⟩ (.slice Ae m ce) = W3 := ⟨_, rfl⟩
  have k3 : Blk W3 w.heap.size 69 #[.int .i64 a, .slice Ae m ce, .slice Ap np cpp] := by rw [← hW3]; exact (HK2.out.store 1 (.slice Ae m ce)).same rfl
  have hoth : ∀ b, b ≠ w.heap.size → W3.heap[b]? = W2.heap[b]? := fun b hb => by rw [← hW3]; exact Below.heap_setCell W2 _ _ b hb
  have hsz3 : W3.heap.size = W2.heap.size := by rw [← hW3]; exact World.size_setCell ..
  have hb3 : Below w.heap.size w W3 := by rw [← hW3]; exact HB2.out.setCell (Nat.le_refl _) _
  rw [hW3]
  have HG1 : Hid (w.heap.size < W1.heap.size) := Lib.hid HK1.out.lt
  have HO4b := Lib.hid (HO4.out.stored HK2.out HG1.out hoth)
  have HO5b := Lib.hid (HO5.out.stored HG1.out hoth)
  have HS12 : Hid (W1.heap.size ≤ W3.heap.size) := Lib.hid (by rw [hsz3]; exact HS2.out)
  have hr4 : RdP W3 (fun b => b < W3.heap.size) A4 fs := by
    obtain ⟨A', c', e, _, h9⟩ := HO4b.out.rdP HS12.out
    obtain ⟨rfl, -, -⟩ := Value.slice.inj e
    exact h9
  have hr5 : RdS W3 A5 fs := by
    obtain ⟨A', c', e, _, h9⟩ := HO5b.out.rdS
    obtain ⟨rfl, -, -⟩ := Value.slice.inj e
    exact h9
  have HR4 := Lib.hid hr4
  have HR5 := Lib.hid hr5
  have HK3 := Lib.hid k3
  have HB3 := Lib.hid hb3
  have HT3 := Lib.hid (HT.out.below hb3)
  have hle : ∀ p ∈ fs, p.length ≤ 1000000 := fun p hp => Nat.le_trans (HFE.out p hp) (by omega)
  have HLE := Lib.hid hle
  obtain ⟨nf, hnf⟩ : ∃ nf, fs.length = nf := ⟨_, rfl⟩
  rw [hnf] at hc4 hc5 ⊢
  have HNF := Lib.hid hnf
  have hnf20 : nf ≤ 20 := by have := HFL.out; omega
  have HN20 := Lib.hid hnf20
  have HC4 := Lib.hid hc4
  have HC5 := Lib.hid hc5
  have HE3 : Hid (RdB W3 (fun b => b < W3.heap.size) (.slice Ae m ce) E) := Lib.hid ((HE1.out.kept fun a x ha h => (hb3.cell (p := a) ha).trans h).mono fun b hb' => Nat.lt_of_lt_of_le hb' hb3.size)
  have HP3 : Hid (RdI W3 (fun b => b < W3.heap.size) (.slice Ap np cpp) path) := Lib.hid ((HPP.out.old hb3).mono fun b hb' => Nat.lt_of_lt_of_le hb' hb3.size)
  clear cA cE cP hf2 hW3 hoth hsz3 hr4 hr5 hle hnf k3 hb3
  obtain ⟨cA, cE, cP⟩ := shown_cells HK3.out
  have HENR : Hid (Calls Tryd.prog 34 #[.int .i64 c, .slice A4 nf c4, .slice Ae m ce, .int .i64 a, .slice Ap np cpp] W3 fun e w' => e = .returned (.tuple #[.agg #[.slice none 0 0, .slice none 0 0], .bool false]) ∧ Below W3.heap.size W3 w') := Lib.hid (entryS_range c A4 nf c4 _ a _ W3 (by have := HCASE.out; have := HNF.out; omega))
  go_upto_region 8 with (go_at_call 34; refine HENR.out.mono ?_; rintro e W4 ⟨rfl, hb4⟩; have HB4 := Lib.hid (HB3.out.trans (hb4.mono HB3.out.size)); have HB34 := Lib.hid hb4; have HK4 := Lib.hid (HK3.out.below hb4 HK3.out.lt); clear hb4 cA cE cP)
  generalize hW : World.alloc W4 _ = W5
  have hb5 : Below W4.heap.size W4 W5 := by rw [← hW]; exact (Below.refl _ _).alloc (Nat.le_refl _) _
  have k9 : Blk W5 W4.heap.size 62 #[.slice none 0 0, .slice none 0 0] := by rw [← hW]; exact Blk.newAt _ _ rfl rfl
  have HB5 := Lib.hid (HB4.out.trans (hb5.mono HB4.out.size))
  have HB35 := Lib.hid (HB34.out.trans (hb5.mono HB34.out.size))
  have k5 : Blk W5 w.heap.size 69 #[.int .i64 a, .slice Ae m ce, .slice Ap np cpp] := HK4.out.below hb5 HK4.out.lt
  have HK5 := Lib.hid k5
  have HKP := Lib.hid k9
  have HBX := Lib.hid hb5
  obtain ⟨cA, cE, cP⟩ := shown_cells k5
  clear hW hb5 k5 k9
  have hlo := HCASE.out
  have d0b : ¬ a < 0 := by omega
  have d0 : decide (a < 0) = false := decide_eq_false d0b
  have d1b : (nf : Int) ≤ a := by rw [← HNF.out]; exact hlo.2
  have d1 : decide ((nf : Int) ≤ a) = true := decide_eq_true d1b
  clear hlo
  go_wp2_with fail
  go_ret
  exact ⟨rfl, HB5.out⟩
set_option maxRecDepth 100000 in
set_option maxHeartbeats 8000000 in
theorem entry_far (c : Int) (A : Option Addr) (n cp : Nat) (ps : List (List UInt8)) (a : Nat) (Ae : Option Addr) (ne ce : Nat) (entry : List UInt8) (Ap : Option Addr) (np cpp : Nat) (path : List D) (w : World) (hT : Tables w) (hn : ps.length = n) (hm : n ≤ 140737488351232) (hr : RdP w (fun b => b < w.heap.size) A ps)
    (hne : entry.length = ne) (he : RdB w (fun b => b < w.heap.size) (.slice Ae ne ce) entry) (hnp : path.length = np) (hp : RdI w (fun b => b < w.heap.size) (.slice Ap np cpp) path) (h : path.length ≤ 70) (hcase : a < (fewL ps).length ∧ 64 < path.length) :
    Calls Tryd.prog 9 #[.int .i64 c, .slice A n cp, .agg #[.int .i64 (a : Int), .slice Ae ne ce, .slice Ap np cpp]] w fun e w' => e = .returned (.bool true) ∧ Below w.heap.size w w' := by
  have hb0 : Below w.heap.size w (w.alloc (.cells #[.int .i64 (a : Int), .slice Ae ne ce, .slice Ap np cpp] 69)) := (Below.refl _ _).alloc (Nat.le_refl _) _
  have hk0 : Blk (w.alloc (.cells #[.int .i64 (a : Int), .slice Ae ne ce, .slice Ap np cpp] 69)) w.heap.size 69 #[.int .i64 (a : Int), .slice Ae ne ce, .slice Ap np cpp] := Blk.new w _ _
  have HTB := Lib.hid (hT.below hb0)
  have HT := Lib.hid hT
  have HK0 := Lib.hid hk0
  have HB0 := Lib.hid hb0
  obtain ⟨W0, hW0⟩ : ∃ W0, w.alloc (.cells #[.int .i64 (a : Int), .slice Ae ne ce, .slice Ap np cpp] 69) = W0 := ⟨_, rfl⟩
  rw [hW0] at HTB HK0 HB0
  have HFW : Hid (∀ W, Below w.heap.size w W → Calls Tryd.prog 19 #[.slice A n cp] W fun e w' => ∃ v4 v5, e = .returned (.tuple #[v4, v5]) ∧ OutAt w' W.heap.size v4 (fewL ps) ∧ TxtRow w' W.heap.size v5 (fewL ps) ∧ Below W.heap.size W w') := Lib.hid fun W hb => few_any A n cp ps W hn hm (hr.oldS hb)
  have hfl := fewL_length ps
  have hfe := fewL_each ps
  obtain ⟨fs, hfs⟩ : ∃ fs, fewL ps = fs := ⟨_, rfl⟩
  rw [hfs] at HFW hfl hfe hcase
  have HFE := Lib.hid hfe
  have HFL := Lib.hid hfl
  have HNL : Hid (np ≤ 70) := Lib.hid (by omega)
  have h70 : ¬ 70 < (np : Int) := by omega
  obtain ⟨_, _, eE, hle, _, _⟩ := id he
  obtain ⟨-, -, e3⟩ := Value.slice.inj eE
  have hlc : ne ≤ ce := by rw [e3]; omega
  clear eE e3 hle
  obtain ⟨m, hmd⟩ : ∃ m, min ne 100 = m := ⟨_, rfl⟩
  have hm1 : m ≤ ne := by rw [← hmd]; exact Nat.min_le_left _ _
  have hm100 : m ≤ 100 := by rw [← hmd]; exact Nat.min_le_right _ _
  have hmin : min (ne : Int) 100 = (m : Int) := by omega
  have hsl : ∀ W, (Instr.sliceAt 50 (.slice Ae ne ce) none (some (.int .i64 (m : Int))) none).run Tryd.prog W = .ok (.slice Ae m ce) W := fun W => run_slice_to (P := Tryd.prog) 50 5 Tryd.underlying50 (by kernel_rfl) Ae ne ce m (by omega) W
  have he1 : RdB w (fun b => b < w.heap.size) (.slice Ae m ce) (entry.take m) := by
    obtain ⟨A', c', e, h1, h2, h3⟩ := he
    injection e with e1 e2 e3
    subst e1; subst e3
    have hl : (entry.take m).length = m := by rw [List.length_take]; omega
    refine ⟨Ae, ce, by rw [hl], by rw [hl]; omega, by rw [hl]; omega, fun h0 => ?_⟩
    obtain ⟨ad, e, hok, hc⟩ := h3 (by omega)
    refine ⟨ad, e, hok, fun j hj => ?_⟩
    rw [hl] at hj
    rw [hc j (by omega), List.getD_eq_getElem?_getD, List.getD_eq_getElem?_getD, List.getElem?_take, if_pos hj]
  have hl1 : (entry.take m).length = m := by rw [List.length_take]; omega
  have hE100 : entry.take m = entry.take 100 := by
    rw [← hmd, ← hne, Nat.min_comm]
    exact (List.take_eq_take_min (l := entry) (i := 100)).symm
  obtain ⟨E, hE⟩ : ∃ E, entry.take m = E := ⟨_, rfl⟩
  rw [hE] at he1 hl1 hE100
  have HCASE := Lib.hid hcase
  have HE1 := Lib.hid he1
  have HL1 := Lib.hid hl1
  have HNP := Lib.hid hnp
  have HPP := Lib.hid hp
  have H100 := Lib.hid hm100
  clear hT hn hm hr hne he hnp hp h hb0 hk0 hfs hfl hfe hmd hm1 hm100 hlc hl1 he1 hE hE100 hcase
  go_enter Tryd.func9, Tryd.ntmps9
  go_upto_region 1 with fail
  try rw [hW0]
  clear hW0
  go_upto_region 3 with (go_at_call 18; refine (cuts_any _ HTB.out).mono ?_; rintro e W1 ⟨rfl, hb1⟩; have k1 := HK0.out.below hb1 HK0.out.lt; obtain ⟨cA, cE, cP⟩ := shown_cells k1; have HB1 := Lib.hid (HB0.out.trans (hb1.mono HB0.out.size)); have HK1 := Lib.hid k1; clear hb1 k1)
  go_upto_region 6 with (go_at_call 19; refine (HFW.out _ HB1.out).mono ?_; rintro e W2 ⟨v4, v5, rfl, ho4, ho5, hb2⟩; have k2 := HK1.out.below hb2 HK1.out.lt; clear cA cE cP; obtain ⟨cA, cE, cP⟩ := shown_cells k2; have hf2 : W2.frozen? ⟨w.heap.size, 1, none⟩ = false := k2.frozen 1; have HB2 := Lib.hid (HB1.out.trans (hb2.mono HB1.out.size)); have HS2 := Lib.hid hb2.size; have HO4 := Lib.hid ho4; have HO5 := Lib.hid ho5; have HK2 := Lib.hid k2; clear hb2 k2 ho4 ho5 HFW)
  obtain ⟨A4, c4, e4, hc4⟩ := out_slice HO4.out
  obtain ⟨A5, c5, e5, hc5⟩ := txt_slice HO5.out
  subst e4 e5
  go_upto_region 7 with fail
  obtain ⟨W3, hW3⟩ : ∃ W3, W2.setCell ⟨w.heap.size, 1, none⟩ (.slice Ae m ce) = W3 := ⟨_, rfl⟩
  have k3 : Blk W3 w.heap.size 69 #[.int .i64 (a : Int), .slice Ae m ce, .slice Ap np cpp] := by rw [← hW3]; exact (HK2.out.store 1 (.slice Ae m ce)).same rfl
  have hoth : ∀ b, b ≠ w.heap.size → W3.heap[b]? = W2.heap[b]? := fun b hb => by rw [← hW3]; exact Below.heap_setCell W2 _ _ b hb
  have hsz3 : W3.heap.size = W2.heap.size := by rw [← hW3]; exact World.size_setCell ..
  have hb3 : Below w.heap.size w W3 := by rw [← hW3]; exact HB2.out.setCell (Nat.le_refl _) _
  rw [hW3]
  have HG1 : Hid (w.heap.size < W1.heap.size) := Lib.hid HK1.out.lt
  have HO4b := Lib.hid (HO4.out.stored HK2.out HG1.out hoth)
  have HO5b := Lib.hid (HO5.out.stored HG1.out hoth)
  have HS12 : Hid (W1.heap.size ≤ W3.heap.size) := Lib.hid (by rw [hsz3]; exact HS2.out)
  have hr4 : RdP W3 (fun b => b < W3.heap.size) A4 fs := by
    obtain ⟨A', c', e, _, h9⟩ := HO4b.out.rdP HS12.out
    obtain ⟨rfl, -, -⟩ := Value.slice.inj e
    exact h9
  have hr5 : RdS W3 A5 fs := by
    obtain ⟨A', c', e, _, h9⟩ := HO5b.out.rdS
    obtain ⟨rfl, -, -⟩ := Value.slice.inj e
    exact h9
  have HR4 := Lib.hid hr4
  have HR5 := Lib.hid hr5
  have HK3 := Lib.hid k3
  have HB3 := Lib.hid hb3
  have HT3 := Lib.hid (HT.out.below hb3)
  have hle : ∀ p ∈ fs, p.length ≤ 1000000 := fun p hp => Nat.le_trans (HFE.out p hp) (by omega)
  have HLE := Lib.hid hle
  obtain ⟨nf, hnf⟩ : ∃ nf, fs.length = nf := ⟨_, rfl⟩
  rw [hnf] at hc4 hc5 ⊢
  have HNF := Lib.hid hnf
  have hnf20 : nf ≤ 20 := by have := HFL.out; omega
  have HN20 := Lib.hid hnf20
  have HC4 := Lib.hid hc4
  have HC5 := Lib.hid hc5
  have HE3 : Hid (RdB W3 (fun b => b < W3.heap.size) (.slice Ae m ce) E) := Lib.hid ((HE1.out.kept fun a x ha h => (hb3.cell (p := a) ha).trans h).mono fun b hb' => Nat.lt_of_lt_of_le hb' hb3.size)
  have HP3 : Hid (RdI W3 (fun b => b < W3.heap.size) (.slice Ap np cpp) path) := Lib.hid ((HPP.out.old hb3).mono fun b hb' => Nat.lt_of_lt_of_le hb' hb3.size)
  clear cA cE cP hf2 hW3 hoth hsz3 hr4 hr5 hle hnf k3 hb3
  obtain ⟨cA, cE, cP⟩ := shown_cells HK3.out
  have HAN : Hid (a < nf) := Lib.hid (by have h9 := HCASE.out.1; rw [HNF.out] at h9; exact h9)
  have HEL := Lib.hid (entryS_law c A4 nf c4 fs Ae m ce E a Ap np cpp path W3 HT3.out HNF.out HAN.out (by have := HN20.out; omega) HC4.out HLE.out HR4.out HL1.out (by have := H100.out; omega) HE3.out HNP.out (by have := HNL.out; omega) HP3.out)
  have HLD : Hid (leadsV c E (a : Int) (nf : Int) path (rootC c fs) = false) := Lib.hid (leadsV_long c E path a nf fs (rootC c fs) HNF.out HAN.out (by have := HN20.out; omega) HCASE.out.2)
  go_upto_region 8 with (go_at_call 34; refine HEL.out.mono ?_; rintro e W4 ⟨x, y, b, rfl, hP, hb4⟩; rw [HLD.out] at hP; obtain ⟨rfl, rfl, rfl⟩ := entry_none hP; have HB4 := Lib.hid (HB3.out.trans (hb4.mono HB3.out.size)); have HB34 := Lib.hid hb4; have HK4 := Lib.hid (HK3.out.below hb4 HK3.out.lt); clear hb4 cA cE cP; clear hP)
  generalize hW : World.alloc W4 _ = W5
  have hb5 : Below W4.heap.size W4 W5 := by rw [← hW]; exact (Below.refl _ _).alloc (Nat.le_refl _) _
  have k9 : Blk W5 W4.heap.size 62 #[.slice none 0 0, .slice none 0 0] := by rw [← hW]; exact Blk.newAt _ _ rfl rfl
  have HB5 := Lib.hid (HB4.out.trans (hb5.mono HB4.out.size))
  have HB35 := Lib.hid (HB34.out.trans (hb5.mono HB34.out.size))
  have k5 : Blk W5 w.heap.size 69 #[.int .i64 (a : Int), .slice Ae m ce, .slice Ap np cpp] := HK4.out.below hb5 HK4.out.lt
  have HK5 := Lib.hid k5
  have HKP := Lib.hid k9
  have HBX := Lib.hid hb5
  obtain ⟨cA, cE, cP⟩ := shown_cells k5
  clear hW hb5 k5 k9
  have hai : (a : Int) < (nf : Int) := by have := HAN.out; omega
  have hna : ¬ nf ≤ a := by have := HAN.out; omega
  have hge : ¬ (nf : Int) ≤ (a : Int) := by omega
  have ha0 : (0 : Int) ≤ (a : Int) := by omega
  have ha1 : ¬ (a : Int) < 0 := by omega
  have d0 : decide ((a : Int) < 0) = false := decide_eq_false ha1
  have d1 : decide ((nf : Int) ≤ (a : Int)) = false := decide_eq_false hge
  have h64 : (64 : Int) < (np : Int) := by have := HCASE.out.2; have := HNP.out; omega
  have d2 : decide ((64 : Int) < (np : Int)) = true := decide_eq_true h64
  go_wp2_with fail
  go_ret
  exact ⟨rfl, HB5.out⟩
set_option maxRecDepth 100000 in
set_option maxHeartbeats 8000000 in
theorem entry_unfit (c : Int) (A : Option Addr) (n cp : Nat) (ps : List (List UInt8)) (a : Nat) (Ae : Option Addr) (ne ce : Nat) (entry : List UInt8) (Ap : Option Addr) (np cpp : Nat) (path : List D) (w : World) (hT : Tables w) (hn : ps.length = n) (hm : n ≤ 140737488351232) (hr : RdP w (fun b => b < w.heap.size) A ps)
    (hne : entry.length = ne) (he : RdB w (fun b => b < w.heap.size) (.slice Ae ne ce) entry) (hnp : path.length = np) (hp : RdI w (fun b => b < w.heap.size) (.slice Ap np cpp) path) (h : path.length ≤ 70) (hcase : a < (fewL ps).length ∧ path.length ≤ 64 ∧ (leadsR c (entry.take 100) path.reverse a (fewL ps).length).2 = false) :
    Calls Tryd.prog 9 #[.int .i64 c, .slice A n cp, .agg #[.int .i64 (a : Int), .slice Ae ne ce, .slice Ap np cpp]] w fun e w' => e = .returned (.bool true) ∧ Below w.heap.size w w' := by
  have hb0 : Below w.heap.size w (w.alloc (.cells #[.int .i64 (a : Int), .slice Ae ne ce, .slice Ap np cpp] 69)) := (Below.refl _ _).alloc (Nat.le_refl _) _
  have hk0 : Blk (w.alloc (.cells #[.int .i64 (a : Int), .slice Ae ne ce, .slice Ap np cpp] 69)) w.heap.size 69 #[.int .i64 (a : Int), .slice Ae ne ce, .slice Ap np cpp] := Blk.new w _ _
  have HTB := Lib.hid (hT.below hb0)
  have HT := Lib.hid hT
  have HK0 := Lib.hid hk0
  have HB0 := Lib.hid hb0
  obtain ⟨W0, hW0⟩ : ∃ W0, w.alloc (.cells #[.int .i64 (a : Int), .slice Ae ne ce, .slice Ap np cpp] 69) = W0 := ⟨_, rfl⟩
  rw [hW0] at HTB HK0 HB0
  have HFW : Hid (∀ W, Below w.heap.size w W → Calls Tryd.prog 19 #[.slice A n cp] W fun e w' => ∃ v4 v5, e = .returned (.tuple #[v4, v5]) ∧ OutAt w' W.heap.size v4 (fewL ps) ∧ TxtRow w' W.heap.size v5 (fewL ps) ∧ Below W.heap.size W w') := Lib.hid fun W hb => few_any A n cp ps W hn hm (hr.oldS hb)
  have hfl := fewL_length ps
  have hfe := fewL_each ps
  obtain ⟨fs, hfs⟩ : ∃ fs, fewL ps = fs := ⟨_, rfl⟩
  rw [hfs] at HFW hfl hfe hcase
  have HFE := Lib.hid hfe
  have HFL := Lib.hid hfl
  have HNL : Hid (np ≤ 70) := Lib.hid (by omega)
  have h70 : ¬ 70 < (np : Int) := by omega
  obtain ⟨_, _, eE, hle, _, _⟩ := id he
  obtain ⟨-, -, e3⟩ := Value.slice.inj eE
  have hlc : ne ≤ ce := by rw [e3]; omega
  clear eE e3 hle
  obtain ⟨m, hmd⟩ : ∃ m, min ne 100 = m := ⟨_, rfl⟩
  have hm1 : m ≤ ne := by rw [← hmd]; exact Nat.min_le_left _ _
  have hm100 : m ≤ 100 := by rw [← hmd]; exact Nat.min_le_right _ _
  have hmin : min (ne : Int) 100 = (m : Int) := by omega
  have hsl : ∀ W, (Instr.sliceAt 50 (.slice Ae ne ce) none (some (.int .i64 (m : Int))) none).run Tryd.prog W = .ok (.slice Ae m ce) W := fun W => run_slice_to (P := Tryd.prog) 50 5 Tryd.underlying50 (by kernel_rfl) Ae ne ce m (by omega) W
  have he1 : RdB w (fun b => b < w.heap.size) (.slice Ae m ce) (entry.take m) := by
    obtain ⟨A', c', e, h1, h2, h3⟩ := he
    injection e with e1 e2 e3
    subst e1; subst e3
    have hl : (entry.take m).length = m := by rw [List.length_take]; omega
    refine ⟨Ae, ce, by rw [hl], by rw [hl]; omega, by rw [hl]; omega, fun h0 => ?_⟩
    obtain ⟨ad, e, hok, hc⟩ := h3 (by omega)
    refine ⟨ad, e, hok, fun j hj => ?_⟩
    rw [hl] at hj
    rw [hc j (by omega), List.getD_eq_getElem?_getD, List.getD_eq_getElem?_getD, List.getElem?_take, if_pos hj]
  have hl1 : (entry.take m).length = m := by rw [List.length_take]; omega
  have hE100 : entry.take m = entry.take 100 := by
    rw [← hmd, ← hne, Nat.min_comm]
    exact (List.take_eq_take_min (l := entry) (i := 100)).symm
  obtain ⟨E, hE⟩ : ∃ E, entry.take m = E := ⟨_, rfl⟩
  rw [hE] at he1 hl1 hE100
  rw [← hE100] at hcase
  have HCASE := Lib.hid hcase
  have HE1 := Lib.hid he1
  have HL1 := Lib.hid hl1
  have HNP := Lib.hid hnp
  have HPP := Lib.hid hp
  have H100 := Lib.hid hm100
  clear hT hn hm hr hne he hnp hp h hb0 hk0 hfs hfl hfe hmd hm1 hm100 hlc hl1 he1 hE hE100 hcase
  go_enter Tryd.func9, Tryd.ntmps9
  go_upto_region 1 with fail
  try rw [hW0]
  clear hW0
  go_upto_region 3 with (go_at_call 18; refine (cuts_any _ HTB.out).mono ?_; rintro e W1 ⟨rfl, hb1⟩; have k1 := HK0.out.below hb1 HK0.out.lt; obtain ⟨cA, cE, cP⟩ := shown_cells k1; have HB1 := Lib.hid (HB0.out.trans (hb1.mono HB0.out.size)); have HK1 := Lib.hid k1; clear hb1 k1)
  go_upto_region 6 with (go_at_call 19; refine (HFW.out _ HB1.out).mono ?_; rintro e W2 ⟨v4, v5, rfl, ho4, ho5, hb2⟩; have k2 := HK1.out.below hb2 HK1.out.lt; clear cA cE cP; obtain ⟨cA, cE, cP⟩ := shown_cells k2; have hf2 : W2.frozen? ⟨w.heap.size, 1, none⟩ = false := k2.frozen 1; have HB2 := Lib.hid (HB1.out.trans (hb2.mono HB1.out.size)); have HS2 := Lib.hid hb2.size; have HO4 := Lib.hid ho4; have HO5 := Lib.hid ho5; have HK2 := Lib.hid k2; clear hb2 k2 ho4 ho5 HFW)
  obtain ⟨A4, c4, e4, hc4⟩ := out_slice HO4.out
  obtain ⟨A5, c5, e5, hc5⟩ := txt_slice HO5.out
  subst e4 e5
  go_upto_region 7 with fail
  obtain ⟨W3, hW3⟩ : ∃ W3, W2.setCell ⟨w.heap.size, 1, none⟩ (.slice Ae m ce) = W3 := ⟨_, rfl⟩
  have k3 : Blk W3 w.heap.size 69 #[.int .i64 (a : Int), .slice Ae m ce, .slice Ap np cpp] := by rw [← hW3]; exact (HK2.out.store 1 (.slice Ae m ce)).same rfl
  have hoth : ∀ b, b ≠ w.heap.size → W3.heap[b]? = W2.heap[b]? := fun b hb => by rw [← hW3]; exact Below.heap_setCell W2 _ _ b hb
  have hsz3 : W3.heap.size = W2.heap.size := by rw [← hW3]; exact World.size_setCell ..
  have hb3 : Below w.heap.size w W3 := by rw [← hW3]; exact HB2.out.setCell (Nat.le_refl _) _
  rw [hW3]
  have HG1 : Hid (w.heap.size < W1.heap.size) := Lib.hid HK1.out.lt
  have HO4b := Lib.hid (HO4.out.stored HK2.out HG1.out hoth)
  have HO5b := Lib.hid (HO5.out.stored HG1.out hoth)
  have HS12 : Hid (W1.heap.size ≤ W3.heap.size) := Lib.hid (by rw [hsz3]; exact HS2.out)
  have hr4 : RdP W3 (fun b => b < W3.heap.size) A4 fs := by
    obtain ⟨A', c', e, _, h9⟩ := HO4b.out.rdP HS12.out
    obtain ⟨rfl, -, -⟩ := Value.slice.inj e
    exact h9
  have hr5 : RdS W3 A5 fs := by
    obtain ⟨A', c', e, _, h9⟩ := HO5b.out.rdS
    obtain ⟨rfl, -, -⟩ := Value.slice.inj e
    exact h9
  have HR4 := Lib.hid hr4
  have HR5 := Lib.hid hr5
  have HK3 := Lib.hid k3
  have HB3 := Lib.hid hb3
  have HT3 := Lib.hid (HT.out.below hb3)
  have hle : ∀ p ∈ fs, p.length ≤ 1000000 := fun p hp => Nat.le_trans (HFE.out p hp) (by omega)
  have HLE := Lib.hid hle
  obtain ⟨nf, hnf⟩ : ∃ nf, fs.length = nf := ⟨_, rfl⟩
  rw [hnf] at hc4 hc5 ⊢
  have HNF := Lib.hid hnf
  have hnf20 : nf ≤ 20 := by have := HFL.out; omega
  have HN20 := Lib.hid hnf20
  have HC4 := Lib.hid hc4
  have HC5 := Lib.hid hc5
  have HE3 : Hid (RdB W3 (fun b => b < W3.heap.size) (.slice Ae m ce) E) := Lib.hid ((HE1.out.kept fun a x ha h => (hb3.cell (p := a) ha).trans h).mono fun b hb' => Nat.lt_of_lt_of_le hb' hb3.size)
  have HP3 : Hid (RdI W3 (fun b => b < W3.heap.size) (.slice Ap np cpp) path) := Lib.hid ((HPP.out.old hb3).mono fun b hb' => Nat.lt_of_lt_of_le hb' hb3.size)
  clear cA cE cP hf2 hW3 hoth hsz3 hr4 hr5 hle hnf k3 hb3
  obtain ⟨cA, cE, cP⟩ := shown_cells HK3.out
  have HAN : Hid (a < nf) := Lib.hid (by have h9 := HCASE.out.1; rw [HNF.out] at h9; exact h9)
  have HEL := Lib.hid (entryS_law c A4 nf c4 fs Ae m ce E a Ap np cpp path W3 HT3.out HNF.out HAN.out (by have := HN20.out; omega) HC4.out HLE.out HR4.out HL1.out (by have := H100.out; omega) HE3.out HNP.out (by have := HNL.out; omega) HP3.out)
  have HCS0 : Hid ((leadsR c E path.reverse a nf).2 = false) := Lib.hid (by have h9 := HCASE.out.2.2; rw [HNF.out] at h9; exact h9)
  have HLD : Hid (leadsV c E (a : Int) (nf : Int) path (rootC c fs) = false) := Lib.hid (by rw [leadsV_ref c E path a nf (rootC c fs) HAN.out (by have := HN20.out; omega)]; rw [HCS0.out, Bool.false_and])
  go_upto_region 8 with (go_at_call 34; refine HEL.out.mono ?_; rintro e W4 ⟨x, y, b, rfl, hP, hb4⟩; rw [HLD.out] at hP; obtain ⟨rfl, rfl, rfl⟩ := entry_none hP; have HB4 := Lib.hid (HB3.out.trans (hb4.mono HB3.out.size)); have HB34 := Lib.hid hb4; have HK4 := Lib.hid (HK3.out.below hb4 HK3.out.lt); clear hb4 cA cE cP; clear hP)
  generalize hW : World.alloc W4 _ = W5
  have hb5 : Below W4.heap.size W4 W5 := by rw [← hW]; exact (Below.refl _ _).alloc (Nat.le_refl _) _
  have k9 : Blk W5 W4.heap.size 62 #[.slice none 0 0, .slice none 0 0] := by rw [← hW]; exact Blk.newAt _ _ rfl rfl
  have HB5 := Lib.hid (HB4.out.trans (hb5.mono HB4.out.size))
  have HB35 := Lib.hid (HB34.out.trans (hb5.mono HB34.out.size))
  have k5 : Blk W5 w.heap.size 69 #[.int .i64 (a : Int), .slice Ae m ce, .slice Ap np cpp] := HK4.out.below hb5 HK4.out.lt
  have HK5 := Lib.hid k5
  have HKP := Lib.hid k9
  have HBX := Lib.hid hb5
  obtain ⟨cA, cE, cP⟩ := shown_cells k5
  clear hW hb5 k5 k9
  have hai : (a : Int) < (nf : Int) := by have := HAN.out; omega
  have hna : ¬ nf ≤ a := by have := HAN.out; omega
  have hge : ¬ (nf : Int) ≤ (a : Int) := by omega
  have ha0 : (0 : Int) ≤ (a : Int) := by omega
  have ha1 : ¬ (a : Int) < 0 := by omega
  have d0 : decide ((a : Int) < 0) = false := decide_eq_false ha1
  have d1 : decide ((nf : Int) ≤ (a : Int)) = false := decide_eq_false hge
  have h64 : ¬ (64 : Int) < (np : Int) := by have := HCASE.out.2.1; have := HNP.out; omega
  have d2 : decide ((64 : Int) < (np : Int)) = false := decide_eq_false h64
  have hcv : (convert 50 9 (.slice Ae m ce)).run Tryd.prog W5 = .ok (.string ⟨E.toArray⟩) W5 := str_rd ((HE3.out.kept fun a x ha h => (HB35.out.cell (p := a) ha).trans h).mono fun b hb' => Nat.lt_of_lt_of_le hb' HB35.out.size)
  have HRL : Hid (Calls Tryd.prog 30 #[.int .i64 c, .string ⟨E.toArray⟩, .int .i64 (a : Int), .int .i64 (nf : Int), .slice Ap np cpp] W5 fun e w' => e = .returned (.tuple #[.agg (arr 32 fun i => bv ((leadsR c E path.reverse a nf).1 i)), .bool (leadsR c E path.reverse a nf).2]) ∧ Below W5.heap.size W5 w') := Lib.hid (refLeadsS_any c E (by have := HL1.out; have := H100.out; omega) path.reverse a nf _ path W5 rfl (by have := HNP.out; have := HNL.out; simp; omega) HAN.out (by have := HN20.out; omega) ((HP3.out.old HB35.out).mono fun b hb' => Nat.lt_of_lt_of_le hb' HB35.out.size))
  have HCS : Hid ((leadsR c E path.reverse a nf).2 = false) := Lib.hid (by have h9 := HCASE.out.2.2; rw [HNF.out] at h9; exact h9)
  obtain ⟨R, hR⟩ : ∃ R, (leadsR c E path.reverse a nf).1 = R := ⟨_, rfl⟩
  rw [HCS.out, hR] at HRL
  obtain ⟨s, hs⟩ : ∃ s, (⟨E.toArray⟩ : ByteArray) = s := ⟨_, rfl⟩
  rw [hs] at hcv HRL
  go_upto_region 11 with (first
    | (go_at_call 30; refine HRL.out.mono ?_; rintro e W6 ⟨rfl, hb6⟩; have HB6 := Lib.hid (HB5.out.trans (hb6.mono HB5.out.size)); have HB56 := Lib.hid hb6; have HK6 := Lib.hid (HK5.out.below hb6 HK5.out.lt); have HKQ := Lib.hid (HKP.out.below hb6 HKP.out.lt); clear hb6 HRL cA cE cP)
    | (guard_target = wpList _ _ _ (Oper.mk _ (.store 23 _ _) _ _ _ _ :: _) _ _; refine wpList_store_row rfl 23 _ _ rfl W6.heap.size (arr 32 fun i => bv (R i)) rfl rfl 23 _ (heap_alloc_new W6 _) (by rw [arr_size]; kernel_rfl) (by rw [arr_size]; rfl) (arr_all_bv _ _) ?_; rw [World.setRow_alloc_new]))
  generalize hW7 : World.alloc W6 _ = W7
  have hb7 : Below W6.heap.size W6 W7 := by rw [← hW7]; exact (Below.refl _ _).alloc (Nat.le_refl _) _
  have HKR : Hid (Blk W7 W6.heap.size 23 (arr 32 fun i => bv (R i))) := Lib.hid (by rw [← hW7]; exact Blk.newAt _ _ rfl rfl)
  have HB7 := Lib.hid (HB6.out.trans (hb7.mono HB6.out.size))
  have HK7 := Lib.hid (HK6.out.below hb7 HK6.out.lt)
  have HKS := Lib.hid (HKQ.out.below hb7 HKQ.out.lt)
  have HB57 := Lib.hid (HB56.out.trans (hb7.mono HB56.out.size))
  have HB37 := Lib.hid (HB35.out.trans (HB57.out.mono HB35.out.size))
  clear hW7 hb7
  refine wp_region_held_drew (S := fun _ => True) (by kernel_rfl) ?_ (fun hHeld => ?_)
  · exact trivial
  refine wpAnyH_take (i := 0) (oi := ⟨some 75, _, _, _, _, _⟩) (v := ?_) rfl (by kernel_rfl) (by kernel_rfl) (by kernel_rfl) (fun _ _ _ h => h) (Or.inl ⟨by rfl, ?_⟩) (by assumption) ?_
  rotate_left
  · intro w hSw; (try dsimp only at hSw); go_simp; try (with_reducible rfl)
  rotate_left 0
  try simp only [Act.put, List.setIfInBounds_toArray, List.set_cons_zero, List.set_cons_succ]
  refine wpAnyH_take (i := 1) (oi := ⟨some 76, _, _, _, _, _⟩) (v := ?_) rfl (by kernel_rfl) (by kernel_rfl) (by kernel_rfl) (fun _ _ _ h => h) (Or.inl ⟨by rfl, ?_⟩) (by assumption) ?_
  rotate_left
  · intro w hSw; (try dsimp only at hSw); go_simp; try (with_reducible rfl)
  rotate_left 0
  try simp only [Act.put, List.setIfInBounds_toArray, List.set_cons_zero, List.set_cons_succ]
  refine wpAnyH_take (i := 2) (oi := ⟨some 77, _, _, _, _, _⟩) (v := ?_) rfl (by kernel_rfl) (by kernel_rfl) (by kernel_rfl) (fun _ _ _ h => h) (Or.inl ⟨by rfl, ?_⟩) (by assumption) ?_
  rotate_left
  · intro w hSw; (try dsimp only at hSw); go_simp; try (with_reducible rfl)
  rotate_left 0
  try simp only [Act.put, List.setIfInBounds_toArray, List.set_cons_zero, List.set_cons_succ]
  refine wpAnyH_take (i := 3) (oi := ⟨some 78, _, _, _, _, _⟩) (v := undef) rfl (by kernel_rfl) (by kernel_rfl) (by kernel_rfl) (fun _ _ _ h => h) (Or.inr ⟨by rfl, rfl⟩) (by assumption) ?_
  try simp only [Act.put, List.setIfInBounds_toArray, List.set_cons_zero, List.set_cons_succ]
  refine wpAnyH_take (i := 4) (oi := ⟨some 79, _, _, _, _, _⟩) (v := undef) rfl (by kernel_rfl) (by kernel_rfl) (by kernel_rfl) (fun _ _ _ h => h) (Or.inr ⟨by rfl, rfl⟩) (by assumption) ?_
  try simp only [Act.put, List.setIfInBounds_toArray, List.set_cons_zero, List.set_cons_succ]
  refine wpAnyH_take (i := 5) (oi := ⟨some 80, _, _, _, _, _⟩) (v := undef) rfl (by kernel_rfl) (by kernel_rfl) (by kernel_rfl) (fun _ _ _ h => h) (Or.inr ⟨by rfl, rfl⟩) (by assumption) ?_
  try simp only [Act.put, List.setIfInBounds_toArray, List.set_cons_zero, List.set_cons_succ]
  refine wpAnyH_take (i := 6) (oi := ⟨some 81, _, _, _, _, _⟩) (v := undef) rfl (by kernel_rfl) (by kernel_rfl) (by kernel_rfl) (fun _ _ _ h => h) (Or.inr ⟨by rfl, rfl⟩) (by assumption) ?_
  try simp only [Act.put, List.setIfInBounds_toArray, List.set_cons_zero, List.set_cons_succ]
  refine wpAnyH_take (i := 7) (oi := ⟨some 82, _, _, _, _, _⟩) (v := undef) rfl (by kernel_rfl) (by kernel_rfl) (by kernel_rfl) (fun _ _ _ h => h) (Or.inr ⟨by rfl, rfl⟩) (by assumption) ?_
  try simp only [Act.put, List.setIfInBounds_toArray, List.set_cons_zero, List.set_cons_succ]
  refine wpAnyH_take (i := 8) (oi := ⟨some 83, _, _, _, _, _⟩) (v := ?_) rfl (by kernel_rfl) (by kernel_rfl) (by kernel_rfl) (fun _ _ _ h => h) (Or.inl ⟨by rfl, ?_⟩) (by assumption) ?_
  rotate_left
  · intro w hSw; (try dsimp only at hSw); go_simp; try (with_reducible rfl)
  rotate_left 0
  try simp only [Act.put, List.setIfInBounds_toArray, List.set_cons_zero, List.set_cons_succ]
  refine wpAnyH_done (by kernel_rfl) ?_ _
  go_wp2_with fail
  go_ret
  exact ⟨rfl, HB7.out.drew⟩
set_option maxRecDepth 100000 in
set_option maxHeartbeats 8000000 in
theorem entry_other (c : Int) (A : Option Addr) (n cp : Nat) (ps : List (List UInt8)) (a : Nat) (Ae : Option Addr) (ne ce : Nat) (entry : List UInt8) (Ap : Option Addr) (np cpp : Nat) (path : List D) (w : World) (hT : Tables w) (hn : ps.length = n) (hm : n ≤ 140737488351232) (hr : RdP w (fun b => b < w.heap.size) A ps)
    (hne : entry.length = ne) (he : RdB w (fun b => b < w.heap.size) (.slice Ae ne ce) entry) (hnp : path.length = np) (hp : RdI w (fun b => b < w.heap.size) (.slice Ap np cpp) path) (h : path.length ≤ 70) (hcase : a < (fewL ps).length ∧ path.length ≤ 64 ∧ (leadsR c (entry.take 100) path.reverse a (fewL ps).length).2 = true ∧ (id32 (leadsR c (entry.take 100) path.reverse a (fewL ps).length).1 == id32 (rootC c (fewL ps))) = false) :
    Calls Tryd.prog 9 #[.int .i64 c, .slice A n cp, .agg #[.int .i64 (a : Int), .slice Ae ne ce, .slice Ap np cpp]] w fun e w' => e = .returned (.bool true) ∧ Below w.heap.size w w' := by
  have hb0 : Below w.heap.size w (w.alloc (.cells #[.int .i64 (a : Int), .slice Ae ne ce, .slice Ap np cpp] 69)) := (Below.refl _ _).alloc (Nat.le_refl _) _
  have hk0 : Blk (w.alloc (.cells #[.int .i64 (a : Int), .slice Ae ne ce, .slice Ap np cpp] 69)) w.heap.size 69 #[.int .i64 (a : Int), .slice Ae ne ce, .slice Ap np cpp] := Blk.new w _ _
  have HTB := Lib.hid (hT.below hb0)
  have HT := Lib.hid hT
  have HK0 := Lib.hid hk0
  have HB0 := Lib.hid hb0
  obtain ⟨W0, hW0⟩ : ∃ W0, w.alloc (.cells #[.int .i64 (a : Int), .slice Ae ne ce, .slice Ap np cpp] 69) = W0 := ⟨_, rfl⟩
  rw [hW0] at HTB HK0 HB0
  have HFW : Hid (∀ W, Below w.heap.size w W → Calls Tryd.prog 19 #[.slice A n cp] W fun e w' => ∃ v4 v5, e = .returned (.tuple #[v4, v5]) ∧ OutAt w' W.heap.size v4 (fewL ps) ∧ TxtRow w' W.heap.size v5 (fewL ps) ∧ Below W.heap.size W w') := Lib.hid fun W hb => few_any A n cp ps W hn hm (hr.oldS hb)
  have hfl := fewL_length ps
  have hfe := fewL_each ps
  obtain ⟨fs, hfs⟩ : ∃ fs, fewL ps = fs := ⟨_, rfl⟩
  rw [hfs] at HFW hfl hfe hcase
  have HFE := Lib.hid hfe
  have HFL := Lib.hid hfl
  have HNL : Hid (np ≤ 70) := Lib.hid (by omega)
  have h70 : ¬ 70 < (np : Int) := by omega
  obtain ⟨_, _, eE, hle, _, _⟩ := id he
  obtain ⟨-, -, e3⟩ := Value.slice.inj eE
  have hlc : ne ≤ ce := by rw [e3]; omega
  clear eE e3 hle
  obtain ⟨m, hmd⟩ : ∃ m, min ne 100 = m := ⟨_, rfl⟩
  have hm1 : m ≤ ne := by rw [← hmd]; exact Nat.min_le_left _ _
  have hm100 : m ≤ 100 := by rw [← hmd]; exact Nat.min_le_right _ _
  have hmin : min (ne : Int) 100 = (m : Int) := by omega
  have hsl : ∀ W, (Instr.sliceAt 50 (.slice Ae ne ce) none (some (.int .i64 (m : Int))) none).run Tryd.prog W = .ok (.slice Ae m ce) W := fun W => run_slice_to (P := Tryd.prog) 50 5 Tryd.underlying50 (by kernel_rfl) Ae ne ce m (by omega) W
  have he1 : RdB w (fun b => b < w.heap.size) (.slice Ae m ce) (entry.take m) := by
    obtain ⟨A', c', e, h1, h2, h3⟩ := he
    injection e with e1 e2 e3
    subst e1; subst e3
    have hl : (entry.take m).length = m := by rw [List.length_take]; omega
    refine ⟨Ae, ce, by rw [hl], by rw [hl]; omega, by rw [hl]; omega, fun h0 => ?_⟩
    obtain ⟨ad, e, hok, hc⟩ := h3 (by omega)
    refine ⟨ad, e, hok, fun j hj => ?_⟩
    rw [hl] at hj
    rw [hc j (by omega), List.getD_eq_getElem?_getD, List.getD_eq_getElem?_getD, List.getElem?_take, if_pos hj]
  have hl1 : (entry.take m).length = m := by rw [List.length_take]; omega
  have hE100 : entry.take m = entry.take 100 := by
    rw [← hmd, ← hne, Nat.min_comm]
    exact (List.take_eq_take_min (l := entry) (i := 100)).symm
  obtain ⟨E, hE⟩ : ∃ E, entry.take m = E := ⟨_, rfl⟩
  rw [hE] at he1 hl1 hE100
  rw [← hE100] at hcase
  have HCASE := Lib.hid hcase
  have HE1 := Lib.hid he1
  have HL1 := Lib.hid hl1
  have HNP := Lib.hid hnp
  have HPP := Lib.hid hp
  have H100 := Lib.hid hm100
  clear hT hn hm hr hne he hnp hp h hb0 hk0 hfs hfl hfe hmd hm1 hm100 hlc hl1 he1 hE hE100 hcase
  go_enter Tryd.func9, Tryd.ntmps9
  go_upto_region 1 with fail
  try rw [hW0]
  clear hW0
  go_upto_region 3 with (go_at_call 18; refine (cuts_any _ HTB.out).mono ?_; rintro e W1 ⟨rfl, hb1⟩; have k1 := HK0.out.below hb1 HK0.out.lt; obtain ⟨cA, cE, cP⟩ := shown_cells k1; have HB1 := Lib.hid (HB0.out.trans (hb1.mono HB0.out.size)); have HK1 := Lib.hid k1; clear hb1 k1)
  go_upto_region 6 with (go_at_call 19; refine (HFW.out _ HB1.out).mono ?_; rintro e W2 ⟨v4, v5, rfl, ho4, ho5, hb2⟩; have k2 := HK1.out.below hb2 HK1.out.lt; clear cA cE cP; obtain ⟨cA, cE, cP⟩ := shown_cells k2; have hf2 : W2.frozen? ⟨w.heap.size, 1, none⟩ = false := k2.frozen 1; have HB2 := Lib.hid (HB1.out.trans (hb2.mono HB1.out.size)); have HS2 := Lib.hid hb2.size; have HO4 := Lib.hid ho4; have HO5 := Lib.hid ho5; have HK2 := Lib.hid k2; clear hb2 k2 ho4 ho5 HFW)
  obtain ⟨A4, c4, e4, hc4⟩ := out_slice HO4.out
  obtain ⟨A5, c5, e5, hc5⟩ := txt_slice HO5.out
  subst e4 e5
  go_upto_region 7 with fail
  obtain ⟨W3, hW3⟩ : ∃ W3, W2.setCell ⟨w.heap.size, 1, none⟩ (.slice Ae m ce) = W3 := ⟨_, rfl⟩
  have k3 : Blk W3 w.heap.size 69 #[.int .i64 (a : Int), .slice Ae m ce, .slice Ap np cpp] := by rw [← hW3]; exact (HK2.out.store 1 (.slice Ae m ce)).same rfl
  have hoth : ∀ b, b ≠ w.heap.size → W3.heap[b]? = W2.heap[b]? := fun b hb => by rw [← hW3]; exact Below.heap_setCell W2 _ _ b hb
  have hsz3 : W3.heap.size = W2.heap.size := by rw [← hW3]; exact World.size_setCell ..
  have hb3 : Below w.heap.size w W3 := by rw [← hW3]; exact HB2.out.setCell (Nat.le_refl _) _
  rw [hW3]
  have HG1 : Hid (w.heap.size < W1.heap.size) := Lib.hid HK1.out.lt
  have HO4b := Lib.hid (HO4.out.stored HK2.out HG1.out hoth)
  have HO5b := Lib.hid (HO5.out.stored HG1.out hoth)
  have HS12 : Hid (W1.heap.size ≤ W3.heap.size) := Lib.hid (by rw [hsz3]; exact HS2.out)
  have hr4 : RdP W3 (fun b => b < W3.heap.size) A4 fs := by
    obtain ⟨A', c', e, _, h9⟩ := HO4b.out.rdP HS12.out
    obtain ⟨rfl, -, -⟩ := Value.slice.inj e
    exact h9
  have hr5 : RdS W3 A5 fs := by
    obtain ⟨A', c', e, _, h9⟩ := HO5b.out.rdS
    obtain ⟨rfl, -, -⟩ := Value.slice.inj e
    exact h9
  have HR4 := Lib.hid hr4
  have HR5 := Lib.hid hr5
  have HK3 := Lib.hid k3
  have HB3 := Lib.hid hb3
  have HT3 := Lib.hid (HT.out.below hb3)
  have hle : ∀ p ∈ fs, p.length ≤ 1000000 := fun p hp => Nat.le_trans (HFE.out p hp) (by omega)
  have HLE := Lib.hid hle
  obtain ⟨nf, hnf⟩ : ∃ nf, fs.length = nf := ⟨_, rfl⟩
  rw [hnf] at hc4 hc5 ⊢
  have HNF := Lib.hid hnf
  have hnf20 : nf ≤ 20 := by have := HFL.out; omega
  have HN20 := Lib.hid hnf20
  have HC4 := Lib.hid hc4
  have HC5 := Lib.hid hc5
  have HE3 : Hid (RdB W3 (fun b => b < W3.heap.size) (.slice Ae m ce) E) := Lib.hid ((HE1.out.kept fun a x ha h => (hb3.cell (p := a) ha).trans h).mono fun b hb' => Nat.lt_of_lt_of_le hb' hb3.size)
  have HP3 : Hid (RdI W3 (fun b => b < W3.heap.size) (.slice Ap np cpp) path) := Lib.hid ((HPP.out.old hb3).mono fun b hb' => Nat.lt_of_lt_of_le hb' hb3.size)
  clear cA cE cP hf2 hW3 hoth hsz3 hr4 hr5 hle hnf k3 hb3
  obtain ⟨cA, cE, cP⟩ := shown_cells HK3.out
  have HAN : Hid (a < nf) := Lib.hid (by have h9 := HCASE.out.1; rw [HNF.out] at h9; exact h9)
  have HEL := Lib.hid (entryS_law c A4 nf c4 fs Ae m ce E a Ap np cpp path W3 HT3.out HNF.out HAN.out (by have := HN20.out; omega) HC4.out HLE.out HR4.out HL1.out (by have := H100.out; omega) HE3.out HNP.out (by have := HNL.out; omega) HP3.out)
  have HCS0 : Hid ((leadsR c E path.reverse a nf).2 = true ∧ (id32 (leadsR c E path.reverse a nf).1 == id32 (rootC c fs)) = false) := Lib.hid (by have h9 := HCASE.out.2.2; rw [HNF.out] at h9; exact h9)
  have HLD : Hid (leadsV c E (a : Int) (nf : Int) path (rootC c fs) = false) := Lib.hid (by rw [leadsV_ref c E path a nf (rootC c fs) HAN.out (by have := HN20.out; omega)]; rw [HCS0.out.1, HCS0.out.2, Bool.true_and])
  go_upto_region 8 with (go_at_call 34; refine HEL.out.mono ?_; rintro e W4 ⟨x, y, b, rfl, hP, hb4⟩; rw [HLD.out] at hP; obtain ⟨rfl, rfl, rfl⟩ := entry_none hP; have HB4 := Lib.hid (HB3.out.trans (hb4.mono HB3.out.size)); have HB34 := Lib.hid hb4; have HK4 := Lib.hid (HK3.out.below hb4 HK3.out.lt); clear hb4 cA cE cP; clear hP)
  generalize hW : World.alloc W4 _ = W5
  have hb5 : Below W4.heap.size W4 W5 := by rw [← hW]; exact (Below.refl _ _).alloc (Nat.le_refl _) _
  have k9 : Blk W5 W4.heap.size 62 #[.slice none 0 0, .slice none 0 0] := by rw [← hW]; exact Blk.newAt _ _ rfl rfl
  have HB5 := Lib.hid (HB4.out.trans (hb5.mono HB4.out.size))
  have HB35 := Lib.hid (HB34.out.trans (hb5.mono HB34.out.size))
  have k5 : Blk W5 w.heap.size 69 #[.int .i64 (a : Int), .slice Ae m ce, .slice Ap np cpp] := HK4.out.below hb5 HK4.out.lt
  have HK5 := Lib.hid k5
  have HKP := Lib.hid k9
  have HBX := Lib.hid hb5
  obtain ⟨cA, cE, cP⟩ := shown_cells k5
  clear hW hb5 k5 k9
  have hai : (a : Int) < (nf : Int) := by have := HAN.out; omega
  have hna : ¬ nf ≤ a := by have := HAN.out; omega
  have hge : ¬ (nf : Int) ≤ (a : Int) := by omega
  have ha0 : (0 : Int) ≤ (a : Int) := by omega
  have ha1 : ¬ (a : Int) < 0 := by omega
  have d0 : decide ((a : Int) < 0) = false := decide_eq_false ha1
  have d1 : decide ((nf : Int) ≤ (a : Int)) = false := decide_eq_false hge
  have h64 : ¬ (64 : Int) < (np : Int) := by have := HCASE.out.2.1; have := HNP.out; omega
  have d2 : decide ((64 : Int) < (np : Int)) = false := decide_eq_false h64
  have hcv : (convert 50 9 (.slice Ae m ce)).run Tryd.prog W5 = .ok (.string ⟨E.toArray⟩) W5 := str_rd ((HE3.out.kept fun a x ha h => (HB35.out.cell (p := a) ha).trans h).mono fun b hb' => Nat.lt_of_lt_of_le hb' HB35.out.size)
  have HRL : Hid (Calls Tryd.prog 30 #[.int .i64 c, .string ⟨E.toArray⟩, .int .i64 (a : Int), .int .i64 (nf : Int), .slice Ap np cpp] W5 fun e w' => e = .returned (.tuple #[.agg (arr 32 fun i => bv ((leadsR c E path.reverse a nf).1 i)), .bool (leadsR c E path.reverse a nf).2]) ∧ Below W5.heap.size W5 w') := Lib.hid (refLeadsS_any c E (by have := HL1.out; have := H100.out; omega) path.reverse a nf _ path W5 rfl (by have := HNP.out; have := HNL.out; simp; omega) HAN.out (by have := HN20.out; omega) ((HP3.out.old HB35.out).mono fun b hb' => Nat.lt_of_lt_of_le hb' HB35.out.size))
  have HCS : Hid ((leadsR c E path.reverse a nf).2 = true ∧ (id32 (leadsR c E path.reverse a nf).1 == id32 (rootC c fs)) = false) := Lib.hid (by have h9 := HCASE.out.2.2; rw [HNF.out] at h9; exact h9)
  obtain ⟨R, hR⟩ : ∃ R, (leadsR c E path.reverse a nf).1 = R := ⟨_, rfl⟩
  rw [HCS.out.1, hR] at HRL
  obtain ⟨s, hs⟩ : ∃ s, (⟨E.toArray⟩ : ByteArray) = s := ⟨_, rfl⟩
  rw [hs] at hcv HRL
  go_upto_region 11 with (first
    | (go_at_call 30; refine HRL.out.mono ?_; rintro e W6 ⟨rfl, hb6⟩; have HB6 := Lib.hid (HB5.out.trans (hb6.mono HB5.out.size)); have HB56 := Lib.hid hb6; have HK6 := Lib.hid (HK5.out.below hb6 HK5.out.lt); have HKQ := Lib.hid (HKP.out.below hb6 HKP.out.lt); clear hb6 HRL cA cE cP)
    | (guard_target = wpList _ _ _ (Oper.mk _ (.store 23 _ _) _ _ _ _ :: _) _ _; refine wpList_store_row rfl 23 _ _ rfl W6.heap.size (arr 32 fun i => bv (R i)) rfl rfl 23 _ (heap_alloc_new W6 _) (by rw [arr_size]; kernel_rfl) (by rw [arr_size]; rfl) (arr_all_bv _ _) ?_; rw [World.setRow_alloc_new]))
  generalize hW7 : World.alloc W6 _ = W7
  have hb7 : Below W6.heap.size W6 W7 := by rw [← hW7]; exact (Below.refl _ _).alloc (Nat.le_refl _) _
  have HKR : Hid (Blk W7 W6.heap.size 23 (arr 32 fun i => bv (R i))) := Lib.hid (by rw [← hW7]; exact Blk.newAt _ _ rfl rfl)
  have HB7 := Lib.hid (HB6.out.trans (hb7.mono HB6.out.size))
  have HK7 := Lib.hid (HK6.out.below hb7 HK6.out.lt)
  have HKS := Lib.hid (HKQ.out.below hb7 HKQ.out.lt)
  have HB57 := Lib.hid (HB56.out.trans (hb7.mono HB56.out.size))
  have HB37 := Lib.hid (HB35.out.trans (HB57.out.mono HB35.out.size))
  clear hW7 hb7
  have HRA : Hid (∀ W, Below W7.heap.size W7 W → Calls Tryd.prog 21 #[.int .i64 c, .slice A5 nf c5] W fun e w' => e = .returned (.agg (arr 32 fun i => bv (rootC c fs i))) ∧ Below W.heap.size W w') := Lib.hid fun W hb => refRootS_any c nf fs A5 c5 W HNF.out (by have := HN20.out; omega) HC5.out HLE.out (HR5.out.oldS (HB37.out.trans (hb.mono HB37.out.size)))
  have hq : ∀ W, (binOp .neq 23 (.agg (arr 32 fun i => bv (R i))) (.agg (arr 32 fun i => bv (rootC c fs i)))).run Tryd.prog W = .ok (.bool (!false)) W := fun W => by rw [neq_id R (rootC c fs) W, ← hR, HCS.out.2]
  have HQ := Lib.hid hq
  clear hq
  refine wp_region_held_drew (S := fun W' => Below W7.drew.heap.size W7.drew W') (by kernel_rfl) ?_ (fun hHeld => ?_)
  · exact Below.refl _ _
  refine wpAnyH_take (i := 0) (oi := ⟨some 75, _, _, _, _, _⟩) (v := ?_) rfl (by kernel_rfl) (by kernel_rfl) (by kernel_rfl) (fun _ _ _ h => h) (Or.inl ⟨by rfl, ?_⟩) (by assumption) ?_
  rotate_left
  · intro w hSw; (try dsimp only at hSw); go_simp; try (with_reducible rfl)
  rotate_left 0
  try simp only [Act.put, List.setIfInBounds_toArray, List.set_cons_zero, List.set_cons_succ]
  refine wpAnyH_take (i := 1) (oi := ⟨some 76, _, _, _, _, _⟩) (v := ?_) rfl (by kernel_rfl) (by kernel_rfl) (by kernel_rfl) (fun _ _ _ h => h) (Or.inl ⟨by rfl, ?_⟩) (by assumption) ?_
  rotate_left
  · intro w hSw; (try dsimp only at hSw); go_simp; try (with_reducible rfl)
  rotate_left 0
  try simp only [Act.put, List.setIfInBounds_toArray, List.set_cons_zero, List.set_cons_succ]
  refine wpAnyH_take (i := 2) (oi := ⟨some 77, _, _, _, _, _⟩) (v := ?_) rfl (by kernel_rfl) (by kernel_rfl) (by kernel_rfl) (fun _ _ _ h => h) (Or.inl ⟨by rfl, ?_⟩) (by assumption) ?_
  rotate_left
  · intro w hSw; (try dsimp only at hSw); go_simp; try (with_reducible rfl)
  rotate_left 0
  try simp only [Act.put, List.setIfInBounds_toArray, List.set_cons_zero, List.set_cons_succ]
  refine wpAnyH_take (i := 3) (oi := ⟨some 78, _, _, _, _, _⟩) (v := (.agg (arr 32 fun i => bv (R i)))) rfl (by kernel_rfl) (by kernel_rfl) (by kernel_rfl) (fun _ _ _ h => h) (yields_runE (by rfl) 23 _ rfl (.pointer (some ⟨W6.heap.size, 0, none⟩)) _ rfl (fun W' hS => load_blk (HKR.out.drew.below hS HKR.out.lt))) (by assumption) ?_
  try simp only [Act.put, List.setIfInBounds_toArray, List.set_cons_zero, List.set_cons_succ]
  refine wpAnyH_take (i := 4) (oi := ⟨some 79, _, _, _, _, _⟩) (v := ?_) rfl (by kernel_rfl) (by kernel_rfl) (by kernel_rfl) (fun _ _ _ h => h) (Or.inl ⟨by rfl, ?_⟩) (by assumption) ?_
  rotate_left
  · intro w hSw; (try dsimp only at hSw); go_simp; try (with_reducible rfl)
  rotate_left 0
  try simp only [Act.put, List.setIfInBounds_toArray, List.set_cons_zero, List.set_cons_succ]
  refine wpAnyH_take (i := 5) (oi := ⟨some 80, _, _, _, _, _⟩) (v := ?_) rfl (by kernel_rfl) (by kernel_rfl) (by kernel_rfl) (fun _ _ _ h => h) (Or.inl ⟨by rfl, ?_⟩) (by assumption) ?_
  rotate_left
  · intro w hSw; (try dsimp only at hSw); go_simp; try (with_reducible rfl)
  rotate_left 0
  try simp only [Act.put, List.setIfInBounds_toArray, List.set_cons_zero, List.set_cons_succ]
  refine wpAnyH_ready (rs := [6]) (by kernel_rfl) (by simp) ?_
  refine (AllReadyH.cons (o := ⟨some 81, _, _, _, _, _⟩) rfl (fun K hK => ?_) AllReadyH.nil)
  (try rw [if_pos (by rfl)])
  go_simp
  refine (HRA.out _ (Below.refl _ _).drew).mono ?_
  rintro e W8 ⟨rfl, hb8⟩
  have hbS : Below W7.drew.heap.size W7.drew W8 := hb8
  try dsimp only
  refine hK.out _ _ (hbS) (fun hHeld => ?_)
  clear hK K
  try simp only [Act.put, List.setIfInBounds_toArray, List.set_cons_zero, List.set_cons_succ]
  refine wpAnyH_take (i := 7) (oi := ⟨some 82, _, _, _, _, _⟩) (v := (.bool (!false))) rfl (by kernel_rfl) (by kernel_rfl) (by kernel_rfl) (fun _ _ _ h => h) (yields_binE (by rfl) .neq 23 _ _ _ rfl (.agg (arr 32 fun i => bv (R i))) (.agg (arr 32 fun i => bv (rootC c fs i))) rfl rfl _ (fun w => guard_idE _ _ _ _ w) HQ.out) (by assumption) ?_
  try simp only [Act.put, List.setIfInBounds_toArray, List.set_cons_zero, List.set_cons_succ]
  refine wpAnyH_take (i := 8) (oi := ⟨some 83, _, _, _, _, _⟩) (v := ?_) rfl (by kernel_rfl) (by kernel_rfl) (by kernel_rfl) (fun _ _ _ h => h) (Or.inl ⟨by rfl, ?_⟩) (by assumption) ?_
  rotate_left
  · intro w hSw; (try dsimp only at hSw); go_simp; try (with_reducible rfl)
  rotate_left 0
  try simp only [Act.put, List.setIfInBounds_toArray, List.set_cons_zero, List.set_cons_succ]
  refine wpAnyH_done (by kernel_rfl) ?_ _
  have HB8 := Lib.hid (HB7.out.trans (((Below.refl _ _).drew.trans (hbS.mono (Nat.le_refl _))).mono HB7.out.size))
  go_wp2_with fail
  go_ret
  exact ⟨rfl, HB8.out⟩
theorem entry_either {c : Int} {w W : World} {x y : Value} {b : Bool} {own entry : List UInt8} {way path : List D} (h : EntryIs c w W x y b true own entry way path) : ∃ A1 n1 c1 A2 n2 c2, x = .slice A1 n1 c1 ∧ y = .slice A2 n2 c2 ∧ ((b = false ∧ own = entry ∧ way.map id32 = path.map id32) ∨ (b = true ∧ ∃ s t, Bad c s t ∧ s.length = n1 ∧ t.length = n2 ∧ s.length ≤ 1000001 ∧ t.length ≤ 1000001 ∧ RdB W (fun b => b < W.heap.size) (.slice A1 n1 c1) s ∧ RdB W (fun b => b < W.heap.size) (.slice A2 n2 c2) t)) := by
  rcases h with ⟨h1, h2, h3, h4⟩ | ⟨h1, _, s, t, hb, hs, ht, hx, hy⟩
  · exact ⟨none, 0, 0, none, 0, 0, h2, h3, .inl ⟨h1, h4 rfl⟩⟩
  · obtain ⟨A1, c1, rfl, _⟩ := id hx
    obtain ⟨A2, c2, rfl, _⟩ := id hy
    exact ⟨A1, s.length, c1, A2, t.length, c2, rfl, rfl, .inr ⟨h1, s, t, hb, rfl, rfl, hs, ht, hx.mono fun _ h => h.2, hy.mono fun _ h => h.2⟩⟩
theorem bad_pairE {c : Int} {s t : List UInt8} (h : Bad c s t) : (s != t && (id32 (cutD c (sha s)) == id32 (cutD c (sha t)))) = true := by
  rw [Bool.and_eq_true, bne_iff_ne, beq_iff_eq]
  exact h
set_option maxRecDepth 100000 in
set_option maxHeartbeats 8000000 in
theorem entry_same (c : Int) (A : Option Addr) (n cp : Nat) (ps : List (List UInt8)) (a : Nat) (Ae : Option Addr) (ne ce : Nat) (entry : List UInt8) (Ap : Option Addr) (np cpp : Nat) (path : List D) (w : World) (hT : Tables w) (hn : ps.length = n) (hm : n ≤ 140737488351232) (hr : RdP w (fun b => b < w.heap.size) A ps)
    (hne : entry.length = ne) (he : RdB w (fun b => b < w.heap.size) (.slice Ae ne ce) entry) (hnp : path.length = np) (hp : RdI w (fun b => b < w.heap.size) (.slice Ap np cpp) path) (h : path.length ≤ 70) (hcase : a < (fewL ps).length ∧ path.length ≤ 64 ∧ (leadsR c (entry.take 100) path.reverse a (fewL ps).length).2 = true ∧ (id32 (leadsR c (entry.take 100) path.reverse a (fewL ps).length).1 == id32 (rootC c (fewL ps))) = true) :
    Calls Tryd.prog 9 #[.int .i64 c, .slice A n cp, .agg #[.int .i64 (a : Int), .slice Ae ne ce, .slice Ap np cpp]] w fun e w' => e = .returned (.bool true) ∧ Below w.heap.size w w' := by
  have hb0 : Below w.heap.size w (w.alloc (.cells #[.int .i64 (a : Int), .slice Ae ne ce, .slice Ap np cpp] 69)) := (Below.refl _ _).alloc (Nat.le_refl _) _
  have hk0 : Blk (w.alloc (.cells #[.int .i64 (a : Int), .slice Ae ne ce, .slice Ap np cpp] 69)) w.heap.size 69 #[.int .i64 (a : Int), .slice Ae ne ce, .slice Ap np cpp] := Blk.new w _ _
  have HTB := Lib.hid (hT.below hb0)
  have HT := Lib.hid hT
  have HK0 := Lib.hid hk0
  have HB0 := Lib.hid hb0
  obtain ⟨W0, hW0⟩ : ∃ W0, w.alloc (.cells #[.int .i64 (a : Int), .slice Ae ne ce, .slice Ap np cpp] 69) = W0 := ⟨_, rfl⟩
  rw [hW0] at HTB HK0 HB0
  have HFW : Hid (∀ W, Below w.heap.size w W → Calls Tryd.prog 19 #[.slice A n cp] W fun e w' => ∃ v4 v5, e = .returned (.tuple #[v4, v5]) ∧ OutAt w' W.heap.size v4 (fewL ps) ∧ TxtRow w' W.heap.size v5 (fewL ps) ∧ Below W.heap.size W w') := Lib.hid fun W hb => few_any A n cp ps W hn hm (hr.oldS hb)
  have hfl := fewL_length ps
  have hfe := fewL_each ps
  obtain ⟨fs, hfs⟩ : ∃ fs, fewL ps = fs := ⟨_, rfl⟩
  rw [hfs] at HFW hfl hfe hcase
  have HFE := Lib.hid hfe
  have HFL := Lib.hid hfl
  have HNL : Hid (np ≤ 70) := Lib.hid (by omega)
  have h70 : ¬ 70 < (np : Int) := by omega
  obtain ⟨_, _, eE, hle, _, _⟩ := id he
  obtain ⟨-, -, e3⟩ := Value.slice.inj eE
  have hlc : ne ≤ ce := by rw [e3]; omega
  clear eE e3 hle
  obtain ⟨m, hmd⟩ : ∃ m, min ne 100 = m := ⟨_, rfl⟩
  have hm1 : m ≤ ne := by rw [← hmd]; exact Nat.min_le_left _ _
  have hm100 : m ≤ 100 := by rw [← hmd]; exact Nat.min_le_right _ _
  have hmin : min (ne : Int) 100 = (m : Int) := by omega
  have hsl : ∀ W, (Instr.sliceAt 50 (.slice Ae ne ce) none (some (.int .i64 (m : Int))) none).run Tryd.prog W = .ok (.slice Ae m ce) W := fun W => run_slice_to (P := Tryd.prog) 50 5 Tryd.underlying50 (by kernel_rfl) Ae ne ce m (by omega) W
  have he1 : RdB w (fun b => b < w.heap.size) (.slice Ae m ce) (entry.take m) := by
    obtain ⟨A', c', e, h1, h2, h3⟩ := he
    injection e with e1 e2 e3
    subst e1; subst e3
    have hl : (entry.take m).length = m := by rw [List.length_take]; omega
    refine ⟨Ae, ce, by rw [hl], by rw [hl]; omega, by rw [hl]; omega, fun h0 => ?_⟩
    obtain ⟨ad, e, hok, hc⟩ := h3 (by omega)
    refine ⟨ad, e, hok, fun j hj => ?_⟩
    rw [hl] at hj
    rw [hc j (by omega), List.getD_eq_getElem?_getD, List.getD_eq_getElem?_getD, List.getElem?_take, if_pos hj]
  have hl1 : (entry.take m).length = m := by rw [List.length_take]; omega
  have hE100 : entry.take m = entry.take 100 := by
    rw [← hmd, ← hne, Nat.min_comm]
    exact (List.take_eq_take_min (l := entry) (i := 100)).symm
  obtain ⟨E, hE⟩ : ∃ E, entry.take m = E := ⟨_, rfl⟩
  rw [hE] at he1 hl1 hE100
  rw [← hE100] at hcase
  have HCASE := Lib.hid hcase
  have HE1 := Lib.hid he1
  have HL1 := Lib.hid hl1
  have HNP := Lib.hid hnp
  have HPP := Lib.hid hp
  have H100 := Lib.hid hm100
  clear hT hn hm hr hne he hnp hp h hb0 hk0 hfs hfl hfe hmd hm1 hm100 hlc hl1 he1 hE hE100 hcase
  go_enter Tryd.func9, Tryd.ntmps9
  go_upto_region 1 with fail
  try rw [hW0]
  clear hW0
  go_upto_region 3 with (go_at_call 18; refine (cuts_any _ HTB.out).mono ?_; rintro e W1 ⟨rfl, hb1⟩; have k1 := HK0.out.below hb1 HK0.out.lt; obtain ⟨cA, cE, cP⟩ := shown_cells k1; have HB1 := Lib.hid (HB0.out.trans (hb1.mono HB0.out.size)); have HK1 := Lib.hid k1; clear hb1 k1)
  go_upto_region 6 with (go_at_call 19; refine (HFW.out _ HB1.out).mono ?_; rintro e W2 ⟨v4, v5, rfl, ho4, ho5, hb2⟩; have k2 := HK1.out.below hb2 HK1.out.lt; clear cA cE cP; obtain ⟨cA, cE, cP⟩ := shown_cells k2; have hf2 : W2.frozen? ⟨w.heap.size, 1, none⟩ = false := k2.frozen 1; have HB2 := Lib.hid (HB1.out.trans (hb2.mono HB1.out.size)); have HS2 := Lib.hid hb2.size; have HO4 := Lib.hid ho4; have HO5 := Lib.hid ho5; have HK2 := Lib.hid k2; clear hb2 k2 ho4 ho5 HFW)
  obtain ⟨A4, c4, e4, hc4⟩ := out_slice HO4.out
  obtain ⟨A5, c5, e5, hc5⟩ := txt_slice HO5.out
  subst e4 e5
  go_upto_region 7 with fail
  obtain ⟨W3, hW3⟩ : ∃ W3, W2.setCell ⟨w.heap.size, 1, none⟩ (.slice Ae m ce) = W3 := ⟨_, rfl⟩
  have k3 : Blk W3 w.heap.size 69 #[.int .i64 (a : Int), .slice Ae m ce, .slice Ap np cpp] := by rw [← hW3]; exact (HK2.out.store 1 (.slice Ae m ce)).same rfl
  have hoth : ∀ b, b ≠ w.heap.size → W3.heap[b]? = W2.heap[b]? := fun b hb => by rw [← hW3]; exact Below.heap_setCell W2 _ _ b hb
  have hsz3 : W3.heap.size = W2.heap.size := by rw [← hW3]; exact World.size_setCell ..
  have hb3 : Below w.heap.size w W3 := by rw [← hW3]; exact HB2.out.setCell (Nat.le_refl _) _
  rw [hW3]
  have HG1 : Hid (w.heap.size < W1.heap.size) := Lib.hid HK1.out.lt
  have HO4b := Lib.hid (HO4.out.stored HK2.out HG1.out hoth)
  have HO5b := Lib.hid (HO5.out.stored HG1.out hoth)
  have HS12 : Hid (W1.heap.size ≤ W3.heap.size) := Lib.hid (by rw [hsz3]; exact HS2.out)
  have hr4 : RdP W3 (fun b => b < W3.heap.size) A4 fs := by
    obtain ⟨A', c', e, _, h9⟩ := HO4b.out.rdP HS12.out
    obtain ⟨rfl, -, -⟩ := Value.slice.inj e
    exact h9
  have hr5 : RdS W3 A5 fs := by
    obtain ⟨A', c', e, _, h9⟩ := HO5b.out.rdS
    obtain ⟨rfl, -, -⟩ := Value.slice.inj e
    exact h9
  have HR4 := Lib.hid hr4
  have HR5 := Lib.hid hr5
  have HK3 := Lib.hid k3
  have HB3 := Lib.hid hb3
  have HT3 := Lib.hid (HT.out.below hb3)
  have hle : ∀ p ∈ fs, p.length ≤ 1000000 := fun p hp => Nat.le_trans (HFE.out p hp) (by omega)
  have HLE := Lib.hid hle
  obtain ⟨nf, hnf⟩ : ∃ nf, fs.length = nf := ⟨_, rfl⟩
  rw [hnf] at hc4 hc5 ⊢
  have HNF := Lib.hid hnf
  have hnf20 : nf ≤ 20 := by have := HFL.out; omega
  have HN20 := Lib.hid hnf20
  have HC4 := Lib.hid hc4
  have HC5 := Lib.hid hc5
  have HE3 : Hid (RdB W3 (fun b => b < W3.heap.size) (.slice Ae m ce) E) := Lib.hid ((HE1.out.kept fun a x ha h => (hb3.cell (p := a) ha).trans h).mono fun b hb' => Nat.lt_of_lt_of_le hb' hb3.size)
  have HP3 : Hid (RdI W3 (fun b => b < W3.heap.size) (.slice Ap np cpp) path) := Lib.hid ((HPP.out.old hb3).mono fun b hb' => Nat.lt_of_lt_of_le hb' hb3.size)
  clear cA cE cP hf2 hW3 hoth hsz3 hr4 hr5 hle hnf k3 hb3
  obtain ⟨cA, cE, cP⟩ := shown_cells HK3.out
  have HAN : Hid (a < nf) := Lib.hid (by have h9 := HCASE.out.1; rw [HNF.out] at h9; exact h9)
  have HEL := Lib.hid (entryS_law c A4 nf c4 fs Ae m ce E a Ap np cpp path W3 HT3.out HNF.out HAN.out (by have := HN20.out; omega) HC4.out HLE.out HR4.out HL1.out (by have := H100.out; omega) HE3.out HNP.out (by have := HNL.out; omega) HP3.out)
  have HCS0 : Hid ((leadsR c E path.reverse a nf).2 = true ∧ (id32 (leadsR c E path.reverse a nf).1 == id32 (rootC c fs)) = true) := Lib.hid (by have h9 := HCASE.out.2.2; rw [HNF.out] at h9; exact h9)
  have HLD : Hid (leadsV c E (a : Int) (nf : Int) path (rootC c fs) = true) := Lib.hid (by rw [leadsV_ref c E path a nf (rootC c fs) HAN.out (by have := HN20.out; omega)]; rw [HCS0.out.1, HCS0.out.2, Bool.true_and])
  go_upto_region 8 with (go_at_call 34; refine HEL.out.mono ?_; rintro e W4 ⟨x, y, b, rfl, hP, hb4⟩; rw [HLD.out] at hP; obtain ⟨A1, n1, c1, A2, n2, c2, rfl, rfl, hQ⟩ := entry_either hP; have HPQ := Lib.hid hQ; clear hP hQ; have HB4 := Lib.hid (HB3.out.trans (hb4.mono HB3.out.size)); have HB34 := Lib.hid hb4; have HK4 := Lib.hid (HK3.out.below hb4 HK3.out.lt); clear hb4 cA cE cP)
  generalize hW : World.alloc W4 _ = W5
  have hb5 : Below W4.heap.size W4 W5 := by rw [← hW]; exact (Below.refl _ _).alloc (Nat.le_refl _) _
  have k9 : Blk W5 W4.heap.size 62 #[.slice A1 n1 c1, .slice A2 n2 c2] := by rw [← hW]; exact Blk.newAt _ _ rfl rfl
  have HB5 := Lib.hid (HB4.out.trans (hb5.mono HB4.out.size))
  have HB35 := Lib.hid (HB34.out.trans (hb5.mono HB34.out.size))
  have k5 : Blk W5 w.heap.size 69 #[.int .i64 (a : Int), .slice Ae m ce, .slice Ap np cpp] := HK4.out.below hb5 HK4.out.lt
  have HK5 := Lib.hid k5
  have HKP := Lib.hid k9
  have HBX := Lib.hid hb5
  obtain ⟨cA, cE, cP⟩ := shown_cells k5
  clear hW hb5 k5 k9
  have hai : (a : Int) < (nf : Int) := by have := HAN.out; omega
  have hna : ¬ nf ≤ a := by have := HAN.out; omega
  have hge : ¬ (nf : Int) ≤ (a : Int) := by omega
  have ha0 : (0 : Int) ≤ (a : Int) := by omega
  have ha1 : ¬ (a : Int) < 0 := by omega
  have d0 : decide ((a : Int) < 0) = false := decide_eq_false ha1
  have d1 : decide ((nf : Int) ≤ (a : Int)) = false := decide_eq_false hge
  have h64 : ¬ (64 : Int) < (np : Int) := by have := HCASE.out.2.1; have := HNP.out; omega
  have d2 : decide ((64 : Int) < (np : Int)) = false := decide_eq_false h64
  have hcv : (convert 50 9 (.slice Ae m ce)).run Tryd.prog W5 = .ok (.string ⟨E.toArray⟩) W5 := str_rd ((HE3.out.kept fun a x ha h => (HB35.out.cell (p := a) ha).trans h).mono fun b hb' => Nat.lt_of_lt_of_le hb' HB35.out.size)
  have HRL : Hid (Calls Tryd.prog 30 #[.int .i64 c, .string ⟨E.toArray⟩, .int .i64 (a : Int), .int .i64 (nf : Int), .slice Ap np cpp] W5 fun e w' => e = .returned (.tuple #[.agg (arr 32 fun i => bv ((leadsR c E path.reverse a nf).1 i)), .bool (leadsR c E path.reverse a nf).2]) ∧ Below W5.heap.size W5 w') := Lib.hid (refLeadsS_any c E (by have := HL1.out; have := H100.out; omega) path.reverse a nf _ path W5 rfl (by have := HNP.out; have := HNL.out; simp; omega) HAN.out (by have := HN20.out; omega) ((HP3.out.old HB35.out).mono fun b hb' => Nat.lt_of_lt_of_le hb' HB35.out.size))
  have HCS : Hid ((leadsR c E path.reverse a nf).2 = true ∧ (id32 (leadsR c E path.reverse a nf).1 == id32 (rootC c fs)) = true) := Lib.hid (by have h9 := HCASE.out.2.2; rw [HNF.out] at h9; exact h9)
  obtain ⟨R, hR⟩ : ∃ R, (leadsR c E path.reverse a nf).1 = R := ⟨_, rfl⟩
  rw [HCS.out.1, hR] at HRL
  obtain ⟨s, hs⟩ : ∃ s, (⟨E.toArray⟩ : ByteArray) = s := ⟨_, rfl⟩
  rw [hs] at hcv HRL
  go_upto_region 11 with (first
    | (go_at_call 30; refine HRL.out.mono ?_; rintro e W6 ⟨rfl, hb6⟩; have HB6 := Lib.hid (HB5.out.trans (hb6.mono HB5.out.size)); have HB56 := Lib.hid hb6; have HK6 := Lib.hid (HK5.out.below hb6 HK5.out.lt); have HKQ := Lib.hid (HKP.out.below hb6 HKP.out.lt); clear hb6 HRL cA cE cP)
    | (guard_target = wpList _ _ _ (Oper.mk _ (.store 23 _ _) _ _ _ _ :: _) _ _; refine wpList_store_row rfl 23 _ _ rfl W6.heap.size (arr 32 fun i => bv (R i)) rfl rfl 23 _ (heap_alloc_new W6 _) (by rw [arr_size]; kernel_rfl) (by rw [arr_size]; rfl) (arr_all_bv _ _) ?_; rw [World.setRow_alloc_new]))
  generalize hW7 : World.alloc W6 _ = W7
  have hb7 : Below W6.heap.size W6 W7 := by rw [← hW7]; exact (Below.refl _ _).alloc (Nat.le_refl _) _
  have HKR : Hid (Blk W7 W6.heap.size 23 (arr 32 fun i => bv (R i))) := Lib.hid (by rw [← hW7]; exact Blk.newAt _ _ rfl rfl)
  have HB7 := Lib.hid (HB6.out.trans (hb7.mono HB6.out.size))
  have HK7 := Lib.hid (HK6.out.below hb7 HK6.out.lt)
  have HKS := Lib.hid (HKQ.out.below hb7 HKQ.out.lt)
  have HB57 := Lib.hid (HB56.out.trans (hb7.mono HB56.out.size))
  have HB37 := Lib.hid (HB35.out.trans (HB57.out.mono HB35.out.size))
  clear hW7 hb7
  have HRA : Hid (∀ W, Below W7.heap.size W7 W → Calls Tryd.prog 21 #[.int .i64 c, .slice A5 nf c5] W fun e w' => e = .returned (.agg (arr 32 fun i => bv (rootC c fs i))) ∧ Below W.heap.size W w') := Lib.hid fun W hb => refRootS_any c nf fs A5 c5 W HNF.out (by have := HN20.out; omega) HC5.out HLE.out (HR5.out.oldS (HB37.out.trans (hb.mono HB37.out.size)))
  have hq : ∀ W, (binOp .neq 23 (.agg (arr 32 fun i => bv (R i))) (.agg (arr 32 fun i => bv (rootC c fs i)))).run Tryd.prog W = .ok (.bool (!true)) W := fun W => by rw [neq_id R (rootC c fs) W, ← hR, HCS.out.2]
  have HQ := Lib.hid hq
  clear hq
  refine wp_region_held_drew (S := fun W' => Below W7.drew.heap.size W7.drew W') (by kernel_rfl) ?_ (fun hHeld => ?_)
  · exact Below.refl _ _
  refine wpAnyH_take (i := 0) (oi := ⟨some 75, _, _, _, _, _⟩) (v := ?_) rfl (by kernel_rfl) (by kernel_rfl) (by kernel_rfl) (fun _ _ _ h => h) (Or.inl ⟨by rfl, ?_⟩) (by assumption) ?_
  rotate_left
  · intro w hSw; (try dsimp only at hSw); go_simp; try (with_reducible rfl)
  rotate_left 0
  try simp only [Act.put, List.setIfInBounds_toArray, List.set_cons_zero, List.set_cons_succ]
  refine wpAnyH_take (i := 1) (oi := ⟨some 76, _, _, _, _, _⟩) (v := ?_) rfl (by kernel_rfl) (by kernel_rfl) (by kernel_rfl) (fun _ _ _ h => h) (Or.inl ⟨by rfl, ?_⟩) (by assumption) ?_
  rotate_left
  · intro w hSw; (try dsimp only at hSw); go_simp; try (with_reducible rfl)
  rotate_left 0
  try simp only [Act.put, List.setIfInBounds_toArray, List.set_cons_zero, List.set_cons_succ]
  refine wpAnyH_take (i := 2) (oi := ⟨some 77, _, _, _, _, _⟩) (v := ?_) rfl (by kernel_rfl) (by kernel_rfl) (by kernel_rfl) (fun _ _ _ h => h) (Or.inl ⟨by rfl, ?_⟩) (by assumption) ?_
  rotate_left
  · intro w hSw; (try dsimp only at hSw); go_simp; try (with_reducible rfl)
  rotate_left 0
  try simp only [Act.put, List.setIfInBounds_toArray, List.set_cons_zero, List.set_cons_succ]
  refine wpAnyH_take (i := 3) (oi := ⟨some 78, _, _, _, _, _⟩) (v := (.agg (arr 32 fun i => bv (R i)))) rfl (by kernel_rfl) (by kernel_rfl) (by kernel_rfl) (fun _ _ _ h => h) (yields_runE (by rfl) 23 _ rfl (.pointer (some ⟨W6.heap.size, 0, none⟩)) _ rfl (fun W' hS => load_blk (HKR.out.drew.below hS HKR.out.lt))) (by assumption) ?_
  try simp only [Act.put, List.setIfInBounds_toArray, List.set_cons_zero, List.set_cons_succ]
  refine wpAnyH_take (i := 4) (oi := ⟨some 79, _, _, _, _, _⟩) (v := ?_) rfl (by kernel_rfl) (by kernel_rfl) (by kernel_rfl) (fun _ _ _ h => h) (Or.inl ⟨by rfl, ?_⟩) (by assumption) ?_
  rotate_left
  · intro w hSw; (try dsimp only at hSw); go_simp; try (with_reducible rfl)
  rotate_left 0
  try simp only [Act.put, List.setIfInBounds_toArray, List.set_cons_zero, List.set_cons_succ]
  refine wpAnyH_take (i := 5) (oi := ⟨some 80, _, _, _, _, _⟩) (v := ?_) rfl (by kernel_rfl) (by kernel_rfl) (by kernel_rfl) (fun _ _ _ h => h) (Or.inl ⟨by rfl, ?_⟩) (by assumption) ?_
  rotate_left
  · intro w hSw; (try dsimp only at hSw); go_simp; try (with_reducible rfl)
  rotate_left 0
  try simp only [Act.put, List.setIfInBounds_toArray, List.set_cons_zero, List.set_cons_succ]
  refine wpAnyH_ready (rs := [6]) (by kernel_rfl) (by simp) ?_
  refine (AllReadyH.cons (o := ⟨some 81, _, _, _, _, _⟩) rfl (fun K hK => ?_) AllReadyH.nil)
  (try rw [if_pos (by rfl)])
  go_simp
  refine (HRA.out _ (Below.refl _ _).drew).mono ?_
  rintro e W8 ⟨rfl, hb8⟩
  have hbS : Below W7.drew.heap.size W7.drew W8 := hb8
  try dsimp only
  refine hK.out _ _ (hbS) (fun hHeld => ?_)
  clear hK K
  try simp only [Act.put, List.setIfInBounds_toArray, List.set_cons_zero, List.set_cons_succ]
  refine wpAnyH_take (i := 7) (oi := ⟨some 82, _, _, _, _, _⟩) (v := (.bool (!true))) rfl (by kernel_rfl) (by kernel_rfl) (by kernel_rfl) (fun _ _ _ h => h) (yields_binE (by rfl) .neq 23 _ _ _ rfl (.agg (arr 32 fun i => bv (R i))) (.agg (arr 32 fun i => bv (rootC c fs i))) rfl rfl _ (fun w => guard_idE _ _ _ _ w) HQ.out) (by assumption) ?_
  try simp only [Act.put, List.setIfInBounds_toArray, List.set_cons_zero, List.set_cons_succ]
  refine wpAnyH_take (i := 8) (oi := ⟨some 83, _, _, _, _, _⟩) (v := ?_) rfl (by kernel_rfl) (by kernel_rfl) (by kernel_rfl) (fun _ _ _ h => h) (Or.inl ⟨by rfl, ?_⟩) (by assumption) ?_
  rotate_left
  · intro w hSw; (try dsimp only at hSw); go_simp; try (with_reducible rfl)
  rotate_left 0
  try simp only [Act.put, List.setIfInBounds_toArray, List.set_cons_zero, List.set_cons_succ]
  refine wpAnyH_done (by kernel_rfl) ?_ _
  have HB78 : Hid (Below W7.heap.size W7 W8) := Lib.hid ((Below.refl _ _).drew.trans (hbS.mono (Nat.le_refl _)))
  have HB8 := Lib.hid (HB7.out.trans (HB78.out.mono HB7.out.size))
  have HB58 := Lib.hid (HB57.out.trans (HB78.out.mono HB57.out.size))
  have HB48 := Lib.hid (HBX.out.trans (HB58.out.mono HBX.out.size))
  have HB38 := Lib.hid (HB37.out.trans (HB78.out.mono HB37.out.size))
  have HK8 := Lib.hid (HK7.out.below HB78.out HK7.out.lt)
  have k8 := HKS.out.below HB78.out HKS.out.lt
  clear hbS
  go_upto_region 13 with fail
  cases b with
  | true =>
    have hq9 := HPQ.out
    rcases hq9 with ⟨h9, _⟩ | ⟨_, s1, t1, hbad, hs1, ht1, hl1, hl2, hx, hy⟩
    · cases h9
    have HPR : Hid (Calls Tryd.prog 33 #[.int .i64 c, .agg #[.slice A1 n1 c1, .slice A2 n2 c2]] W8 fun e w' => e = .returned (.bool true) ∧ Below W8.heap.size W8 w') := Lib.hid (by
      have h9 := pairS_any c A1 A2 n1 n2 c1 c2 s1 t1 W8 hl1 hl2 ((hx.kept fun a x ha h => (HB48.out.cell (p := a) ha).trans h).mono fun b hb' => Nat.lt_of_lt_of_le hb' HB48.out.size) ((hy.kept fun a x ha h => (HB48.out.cell (p := a) ha).trans h).mono fun b hb' => Nat.lt_of_lt_of_le hb' HB48.out.size)
      rw [bad_pairE hbad] at h9
      exact h9)
    have x0 : W8.cell? ⟨W4.heap.size, 0, none⟩ = some (.slice A1 n1 c1) := by rw [k8.cell]; rfl
    have x1 : W8.cell? ⟨W4.heap.size, 1, none⟩ = some (.slice A2 n2 c2) := by rw [k8.cell]; rfl
    clear hbad hs1 ht1 hl1 hl2 hx hy k8
    go_wp2_with (go_at_call 33; refine HPR.out.mono ?_; rintro e W9 ⟨rfl, hb9⟩; have HB9 := Lib.hid hb9; clear hb9)
    go_ret
    exact ⟨rfl, HB8.out.trans (HB9.out.mono HB8.out.size)⟩
  | false =>
    have hq9 := HPQ.out
    rcases hq9 with ⟨_, hown, hali⟩ | ⟨h9, _⟩
    rotate_left
    · cases h9
    obtain ⟨ad5, rfl, hb5k, hst⟩ := HR5.out a (by rw [HNF.out]; exact HAN.out)
    rw [hown] at hst
    have HST : Hid (∀ W', Below W8.drew.heap.size W8.drew W' → W'.cell? (ad5.add a) = some (.string s)) := Lib.hid fun W' hS => by
      have hb9 : Below W3.heap.size W3 W' := HB38.out.trans (((Below.refl _ _).drew.trans (hS.mono (Nat.le_refl _))).mono HB38.out.size)
      rw [← hs]
      exact (hb9.cell (p := ad5.add a) (by rw [block_add]; exact hb5k)).trans hst
    have HCV2 : Hid (∀ W', Below W8.drew.heap.size W8.drew W' → (convert 50 9 (.slice Ae m ce)).run Tryd.prog W' = .ok (.string s) W') := Lib.hid fun W' hS => by
      have hb9 : Below W3.heap.size W3 W' := HB38.out.trans (((Below.refl _ _).drew.trans (hS.mono (Nat.le_refl _))).mono HB38.out.size)
      rw [← hs]
      exact str_rd ((HE3.out.kept fun a x ha h => (hb9.cell (p := a) ha).trans h).mono fun b hb' => Nat.lt_of_lt_of_le hb' hb9.size)
    have HWL : Hid ((wayC c fs a).length ≤ 20) := Lib.hid (wayC_length c nf fs a HNF.out HAN.out (by have := HN20.out; omega))
    have HRW : Hid (∀ W, Below W8.heap.size W8 W → Calls Tryd.prog 28 #[.int .i64 c, .slice (some ad5) nf c5, .int .i64 (a : Int)] W fun e w' => ∃ v', e = .returned v' ∧ w'.ownsRow W.heap.size 23 32 v' (wayC c fs a).length (idCells (wayC c fs a)) ∧ Below W.heap.size W w') := Lib.hid fun W hb => refWayS_any c nf fs a (some ad5) c5 W HNF.out HAN.out (by have := HN20.out; omega) HC5.out HLE.out (HR5.out.oldS (HB38.out.trans (hb.mono HB38.out.size)))
    have HSA : Hid (∀ v W, Below W8.heap.size W8 W → RdI W (fun b => b < W.heap.size) v (wayC c fs a) → Calls Tryd.prog 27 #[.slice Ap np cpp, v] W fun e w' => e = .returned (.bool true) ∧ Below W.heap.size W w') := Lib.hid fun v W hb hv => by
      have hb9 : Below W3.heap.size W3 W := HB38.out.trans (hb.mono HB38.out.size)
      exact same_true (.slice Ap np cpp) v (wayC c fs a) W (rdI_alike ((HP3.out.old hb9).mono fun b hb' => Nat.lt_of_lt_of_le hb' hb9.size) hali.symm) hv (by have := HWL.out; omega)
    clear hown hali hst hb5k k8
    generalize wayC c fs a = P at *
    go_upto_region 15 with fail
    refine wp_region_held_drew (S := fun W' => Below W8.drew.heap.size W8.drew W') (by kernel_rfl) ?_ (fun hHeld => ?_)
    · exact Below.refl _ _
    refine wpAnyH_take (i := 0) (oi := ⟨some 90, _, _, _, _, _⟩) (v := ?_) rfl (by kernel_rfl) (by kernel_rfl) (by kernel_rfl) (fun _ _ _ h => h) (Or.inl ⟨by rfl, ?_⟩) (by assumption) ?_
    rotate_left
    · intro w hSw; (try dsimp only at hSw); go_simp; try (with_reducible rfl)
    rotate_left 0
    try simp only [Act.put, List.setIfInBounds_toArray, List.set_cons_zero, List.set_cons_succ]
    refine wpAnyH_take (i := 1) (oi := ⟨some 91, _, _, _, _, _⟩) (v := (.slice Ae m ce)) rfl (by kernel_rfl) (by kernel_rfl) (by kernel_rfl) (fun _ _ _ h => h) (yields_oneE (by rfl) 50 _ rfl ⟨w.heap.size, 1, none⟩ rfl _ _ (fun W' hS => (shown_cells (HK8.out.drew.below hS HK8.out.lt)).2.1) Tryd.underlying50 rfl) (by assumption) ?_
    try simp only [Act.put, List.setIfInBounds_toArray, List.set_cons_zero, List.set_cons_succ]
    refine wpAnyH_take (i := 2) (oi := ⟨some 92, _, _, _, _, _⟩) (v := (.string s)) rfl (by kernel_rfl) (by kernel_rfl) (by kernel_rfl) (fun _ _ _ h => h) (yieldsIf_conv (by rfl) 50 9 _ rfl (.slice Ae m ce) _ rfl (fun W' hS => HCV2.out W' hS)) (by assumption) ?_
    try simp only [Act.put, List.setIfInBounds_toArray, List.set_cons_zero, List.set_cons_succ]
    refine wpAnyH_take (i := 3) (oi := ⟨some 93, _, _, _, _, _⟩) (v := ?_) rfl (by kernel_rfl) (by kernel_rfl) (by kernel_rfl) (fun _ _ _ h => h) (Or.inl ⟨by rfl, ?_⟩) (by assumption) ?_
    rotate_left
    · intro w hSw; (try dsimp only at hSw); go_simp; try (with_reducible rfl)
    rotate_left 0
    try simp only [Act.put, List.setIfInBounds_toArray, List.set_cons_zero, List.set_cons_succ]
    refine wpAnyH_take (i := 4) (oi := ⟨some 94, _, _, _, _, _⟩) (v := ?_) rfl (by kernel_rfl) (by kernel_rfl) (by kernel_rfl) (fun _ _ _ h => h) (Or.inl ⟨by rfl, ?_⟩) (by assumption) ?_
    rotate_left
    · intro w hSw; (try dsimp only at hSw); go_simp; try (with_reducible rfl)
    rotate_left 0
    try simp only [Act.put, List.setIfInBounds_toArray, List.set_cons_zero, List.set_cons_succ]
    refine wpAnyH_take (i := 5) (oi := ⟨some 95, _, _, _, _, _⟩) (v := (.int .i64 (a : Int))) rfl (by kernel_rfl) (by kernel_rfl) (by kernel_rfl) (fun _ _ _ h => h) (yields_oneE (by rfl) 3 _ rfl ⟨w.heap.size, 0, none⟩ rfl _ _ (fun W' hS => (shown_cells (HK8.out.drew.below hS HK8.out.lt)).1) Tryd.underlying3 rfl) (by assumption) ?_
    try simp only [Act.put, List.setIfInBounds_toArray, List.set_cons_zero, List.set_cons_succ]
    refine wpAnyH_take (i := 6) (oi := ⟨some 96, _, _, _, _, _⟩) (v := (.pointer (some (ad5.add a)))) rfl (by kernel_rfl) (by kernel_rfl) (by kernel_rfl) (fun _ _ _ h => h) (yields_indexE (by rfl) 40 _ _ rfl (.slice (some ad5) nf c5) (.int .i64 (a : Int)) _ rfl rfl (fun w => index_strs ad5 nf c5 a HAN.out w)) (by assumption) ?_
    try simp only [Act.put, List.setIfInBounds_toArray, List.set_cons_zero, List.set_cons_succ]
    refine wpAnyH_take (i := 7) (oi := ⟨some 97, _, _, _, _, _⟩) (v := (.string s)) rfl (by kernel_rfl) (by kernel_rfl) (by kernel_rfl) (fun _ _ _ h => h) (yields_oneE (by rfl) 9 _ rfl (ad5.add a) rfl _ _ (fun W' hS => HST.out W' hS) Tryd.underlying9 rfl) (by assumption) ?_
    try simp only [Act.put, List.setIfInBounds_toArray, List.set_cons_zero, List.set_cons_succ]
    refine wpAnyH_take (i := 8) (oi := ⟨some 98, _, _, _, _, _⟩) (v := (.bool true)) rfl (by kernel_rfl) (by kernel_rfl) (by kernel_rfl) (fun _ _ _ h => h) (yields_binE (by rfl) .eql 9 _ _ _ rfl (.string s) (.string s) rfl rfl _ (fun w => by rfl) (fun w => eql_strE s w)) (by assumption) ?_
    try simp only [Act.put, List.setIfInBounds_toArray, List.set_cons_zero, List.set_cons_succ]
    refine wpAnyH_take (i := 9) (oi := ⟨some 99, _, _, _, _, _⟩) (v := ?_) rfl (by kernel_rfl) (by kernel_rfl) (by kernel_rfl) (fun _ _ _ h => h) (Or.inl ⟨by rfl, ?_⟩) (by assumption) ?_
    rotate_left
    · intro w hSw; (try dsimp only at hSw); go_simp; try (with_reducible rfl)
    rotate_left 0
    try simp only [Act.put, List.setIfInBounds_toArray, List.set_cons_zero, List.set_cons_succ]
    refine wpAnyH_take (i := 10) (oi := ⟨some 100, _, _, _, _, _⟩) (v := ?_) rfl (by kernel_rfl) (by kernel_rfl) (by kernel_rfl) (fun _ _ _ h => h) (Or.inl ⟨by rfl, ?_⟩) (by assumption) ?_
    rotate_left
    · intro w hSw; (try dsimp only at hSw); go_simp; try (with_reducible rfl)
    rotate_left 0
    try simp only [Act.put, List.setIfInBounds_toArray, List.set_cons_zero, List.set_cons_succ]
    refine wpAnyH_take (i := 11) (oi := ⟨some 101, _, _, _, _, _⟩) (v := (.slice Ap np cpp)) rfl (by kernel_rfl) (by kernel_rfl) (by kernel_rfl) (fun _ _ _ h => h) (yields_oneE (by rfl) 24 _ rfl ⟨w.heap.size, 2, none⟩ rfl _ _ (fun W' hS => (shown_cells (HK8.out.drew.below hS HK8.out.lt)).2.2) Tryd.underlying24 rfl) (by assumption) ?_
    try simp only [Act.put, List.setIfInBounds_toArray, List.set_cons_zero, List.set_cons_succ]
    refine wpAnyH_take (i := 12) (oi := ⟨some 102, _, _, _, _, _⟩) (v := ?_) rfl (by kernel_rfl) (by kernel_rfl) (by kernel_rfl) (fun _ _ _ h => h) (Or.inl ⟨by rfl, ?_⟩) (by assumption) ?_
    rotate_left
    · intro w hSw; (try dsimp only at hSw); go_simp; try (with_reducible rfl)
    rotate_left 0
    try simp only [Act.put, List.setIfInBounds_toArray, List.set_cons_zero, List.set_cons_succ]
    refine wpAnyH_take (i := 13) (oi := ⟨some 103, _, _, _, _, _⟩) (v := ?_) rfl (by kernel_rfl) (by kernel_rfl) (by kernel_rfl) (fun _ _ _ h => h) (Or.inl ⟨by rfl, ?_⟩) (by assumption) ?_
    rotate_left
    · intro w hSw; (try dsimp only at hSw); go_simp; try (with_reducible rfl)
    rotate_left 0
    try simp only [Act.put, List.setIfInBounds_toArray, List.set_cons_zero, List.set_cons_succ]
    refine wpAnyH_take (i := 14) (oi := ⟨some 104, _, _, _, _, _⟩) (v := ?_) rfl (by kernel_rfl) (by kernel_rfl) (by kernel_rfl) (fun _ _ _ h => h) (Or.inl ⟨by rfl, ?_⟩) (by assumption) ?_
    rotate_left
    · intro w hSw; (try dsimp only at hSw); go_simp; try (with_reducible rfl)
    rotate_left 0
    try simp only [Act.put, List.setIfInBounds_toArray, List.set_cons_zero, List.set_cons_succ]
    refine wpAnyH_take (i := 15) (oi := ⟨some 105, _, _, _, _, _⟩) (v := (.int .i64 (a : Int))) rfl (by kernel_rfl) (by kernel_rfl) (by kernel_rfl) (fun _ _ _ h => h) (yields_oneE (by rfl) 3 _ rfl ⟨w.heap.size, 0, none⟩ rfl _ _ (fun W' hS => (shown_cells (HK8.out.drew.below hS HK8.out.lt)).1) Tryd.underlying3 rfl) (by assumption) ?_
    try simp only [Act.put, List.setIfInBounds_toArray, List.set_cons_zero, List.set_cons_succ]
    refine wpAnyH_ready (rs := [16]) (by kernel_rfl) (by simp) ?_
    refine (AllReadyH.cons (o := ⟨some 106, _, _, _, _, _⟩) rfl (fun K hK => ?_) AllReadyH.nil)
    (try rw [if_pos (by rfl)])
    go_simp
    refine (HRW.out _ (Below.refl _ _).drew).mono ?_
    rintro e W9 ⟨v9, rfl, ho9, hb9⟩
    have hbS : Below W8.drew.heap.size W8.drew W9 := hb9
    try dsimp only
    refine hK.out _ _ (hbS) (fun hHeld => ?_)
    clear hK K
    try simp only [Act.put, List.setIfInBounds_toArray, List.set_cons_zero, List.set_cons_succ]
    refine wpAnyH_ready (rs := [17]) (by kernel_rfl) (by simp) ?_
    refine (AllReadyH.cons (o := ⟨some 107, _, _, _, _, _⟩) rfl (fun K hK => ?_) AllReadyH.nil)
    (try rw [if_pos (by rfl)])
    go_simp
    refine (HSA.out v9 _ (Below.trans (Below.refl _ _).drew (hbS.mono (Nat.le_refl _))) (sh_own_rd ho9 (by have := HWL.out; omega))).mono ?_
    rintro e W10 ⟨rfl, hb10⟩
    replace hbS : Below W8.drew.heap.size W8.drew W10 := hbS.trans (hb10.mono hbS.size)
    try dsimp only
    refine hK.out _ _ (hbS) (fun hHeld => ?_)
    clear hK K
    try simp only [Act.put, List.setIfInBounds_toArray, List.set_cons_zero, List.set_cons_succ]
    refine wpAnyH_take (i := 18) (oi := ⟨some 108, _, _, _, _, _⟩) (v := ?_) rfl (by kernel_rfl) (by kernel_rfl) (by kernel_rfl) (fun _ _ _ h => h) (Or.inl ⟨by rfl, ?_⟩) (by assumption) ?_
    rotate_left
    · intro w hSw; (try dsimp only at hSw); go_simp; try (with_reducible rfl)
    rotate_left 0
    try simp only [Act.put, List.setIfInBounds_toArray, List.set_cons_zero, List.set_cons_succ]
    refine wpAnyH_take (i := 19) (oi := ⟨some 6, _, _, _, _, _⟩) (v := ?_) rfl (by kernel_rfl) (by kernel_rfl) (by kernel_rfl) (fun _ _ _ h => h) (Or.inl ⟨by rfl, ?_⟩) (by assumption) ?_
    rotate_left
    · intro w hSw; (try dsimp only at hSw); go_simp; try (with_reducible rfl)
    rotate_left 0
    try simp only [Act.put, List.setIfInBounds_toArray, List.set_cons_zero, List.set_cons_succ]
    refine wpAnyH_done (by kernel_rfl) ?_ _
    go_wp2_with fail
    go_ret
    exact ⟨rfl, HB8.out.trans (((Below.refl _ _).drew.trans (hbS.mono (Nat.le_refl _))).mono HB8.out.size)⟩
theorem entry_law (c : Int) (A : Option Addr) (n cp : Nat) (ps : List (List UInt8)) (a : Int) (Ae : Option Addr) (ne ce : Nat) (entry : List UInt8) (Ap : Option Addr) (np cpp : Nat) (path : List D) (w : World) (hT : Tables w) (hn : ps.length = n) (hm : n ≤ 140737488351232) (hr : RdP w (fun b => b < w.heap.size) A ps)
    (hne : entry.length = ne) (he : RdB w (fun b => b < w.heap.size) (.slice Ae ne ce) entry) (hnp : path.length = np) (hp : RdI w (fun b => b < w.heap.size) (.slice Ap np cpp) path) : Calls Tryd.prog 9 #[.int .i64 c, .slice A n cp, .agg #[.int .i64 a, .slice Ae ne ce, .slice Ap np cpp]] w fun e w' => e = .returned (.bool true) ∧ Below w.heap.size w w' := by
  by_cases h : path.length ≤ 70
  · by_cases hlo : a < 0
    · exact entry_lo c A n cp ps a Ae ne ce entry Ap np cpp path w hT hn hm hr hne he hnp hp h hlo
    · by_cases hhi : ((fewL ps).length : Int) ≤ a
      · exact entry_hi c A n cp ps a Ae ne ce entry Ap np cpp path w hT hn hm hr hne he hnp hp h ⟨hlo, hhi⟩
      · obtain ⟨a, rfl⟩ := Int.eq_ofNat_of_zero_le (show 0 ≤ a by omega)
        have ha : a < (fewL ps).length := by omega
        by_cases h64 : 64 < path.length
        · exact entry_far c A n cp ps a Ae ne ce entry Ap np cpp path w hT hn hm hr hne he hnp hp h ⟨ha, h64⟩
        · cases h1 : (leadsR c (entry.take 100) path.reverse a (fewL ps).length).2 with
          | false => exact entry_unfit c A n cp ps a Ae ne ce entry Ap np cpp path w hT hn hm hr hne he hnp hp h ⟨ha, by omega, h1⟩
          | true =>
            cases h2 : (id32 (leadsR c (entry.take 100) path.reverse a (fewL ps).length).1 == id32 (rootC c (fewL ps))) with
            | false => exact entry_other c A n cp ps a Ae ne ce entry Ap np cpp path w hT hn hm hr hne he hnp hp h ⟨ha, by omega, h1, h2⟩
            | true => exact entry_same c A n cp ps a Ae ne ce entry Ap np cpp path w hT hn hm hr hne he hnp hp h ⟨ha, by omega, h1, h2⟩
  · exact entry_long c A n cp a Ae ne ce Ap np cpp path w hT hnp (by omega)
theorem entry_law' (c : Int) (A : Option Addr) (cp : Nat) (ps : List (List UInt8)) (a : Int) (Ae : Option Addr) (ce : Nat) (entry : List UInt8) (pv : Value) (path : List D) (w : World) (hT : Tables w) (hm : ps.length ≤ 140737488351232) (hr : RdP w (fun b => b < w.heap.size) A ps) (he : RdB w (fun b => b < w.heap.size) (.slice Ae entry.length ce) entry) (hp : RdI w (fun b => b < w.heap.size) pv path) :
    Calls Tryd.prog 9 #[.int .i64 c, .slice A ps.length cp, .agg #[.int .i64 a, .slice Ae entry.length ce, pv]] w fun e w' => e = .returned (.bool true) ∧ Below w.heap.size w w' := by
  obtain ⟨Ap, cpp, rfl, _⟩ := id hp
  exact entry_law c A _ cp ps a Ae _ ce entry Ap _ cpp path w hT rfl hm hr rfl he rfl hp
end Go.Proofs.YtlnapnbccojohaaDoor
