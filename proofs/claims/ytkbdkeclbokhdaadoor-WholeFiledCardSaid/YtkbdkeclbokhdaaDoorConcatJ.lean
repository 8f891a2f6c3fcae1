/-
  slices.Concat at slices of bytes: for every list of parts together shorter than 2^40: the bytes one behind the other, in new memory; what lay there lies as it lay.
-/
import Derived.Test.YtkbdkeclbokhdaaDoorIterT
import Derived.Lib.AppendZerosOnto
import Derived.Maps.AppendAt
namespace Go.Proofs.YtkbdkeclbokhdaaDoor
open Go Go.RowKit Go.Shelf
attribute [local go_sem] Oper.semAt_some

section
variable {F : Fence} {n : Nat} {P : Program} {ops : Array Oper} {rest : List Oper} {o : Oper} {a : Act} {w : World} {Q : Exit → Act → World → Prop}
theorem wpListIn_append_rd (hF : ∀ f, F.fn f) (hgd : o.guard = none) (s x : Operand) (t : TypeId) (ho : o.op = .call { callee := .builtin .append, args := #[s, x], argTypes := #[t, t] })
    (base : Nat) (e : TypeId) (i : TypeInfo) (z : Value) (ht : P.underlying t = some (.slice e)) (hi : P.info? e = some i) (hz : i.zero = some z)
    (hsize : i.size = 1) (hby : i.bytes = 1) (hzs : z.cells.size = 1) (v : Value) (k : Nat) (xs : List Value) (hs : a.eval s = v) (hown : w.ownsRow base e 1 v k xs)
    (ok : Nat → Prop) (A : Option Addr) (m c : Nat) (bs : List UInt8) (hx : a.eval x = .slice A m c) (hr : RdB w ok (.slice A m c) bs) (h63 : k + m ≤ 140737488355328) (hbase : base ≤ w.heap.size)
    (h : ∀ v' w', w'.ownsRow base e 1 v' (k + m) (xs ++ bs.map bv) → w.grownBy w' v.ownBlock → (v'.ownBlock = v.ownBlock ∨ v'.ownBlock = some w.heap.size) → wpListIn F n P ops Q rest (a.put o.dst v') w') : wpListIn F n P ops Q (o :: rest) a w := by
  obtain ⟨v', w', hrun, q1, q2, q3⟩ := run_append_rd (P := P) w base t o.type e i z ht hi hz hsize hby hzs v k xs hown ok A m c bs hr h63 hbase
  refine wpListIn_plain hgd fun K hK => ?_
  unfold Oper.wpIn
  refine ⟨fun f _ => hF f, ?_⟩
  rw [Oper.semAt_plain F _ _ (by rw [ho]; intro c hc; cases hc)]
  simp [execOp, ho, resolve, invoke, builtin, hs, hx, hrun, Result.andThen]
  exact hK _ _ (h v' w' q1 q2 q3)

theorem wpListIn_append_run (hF : ∀ f, F.fn f) (hgd : o.guard = none) (s x : Operand) (t t' : TypeId) (ho : o.op = .call { callee := .builtin .append, args := #[s, x], argTypes := #[t, t'] })
    (vs vx : Value) (hs : a.eval s = vs) (hx : a.eval x = vx) (v : Value) (w' : World) (hrun : (Builtin.append_ #[t, t'] o.type #[vs, vx]).run P w = .ok v w')
    (h : wpListIn F n P ops Q rest (a.put o.dst v) w') : wpListIn F n P ops Q (o :: rest) a w := by
  refine wpListIn_plain hgd fun K hK => ?_
  unfold Oper.wpIn
  refine ⟨fun f _ => hF f, ?_⟩
  rw [Oper.semAt_plain F _ _ (by rw [ho]; intro c hc; cases hc)]
  simp [execOp, ho, resolve, invoke, builtin, hs, hx, hrun, Result.andThen]
  exact hK _ _ h

end
set_option maxRecDepth 100000 in
set_option maxHeartbeats 1000000 in
theorem grow_nil (n : Nat) (hn : n ≤ 1099511627776) (w : World) :
    CallsIn Fence.wide 0 Tryd.prog 60 #[.slice none 0 0, .int .i64 (n : Int)] w fun e w' => ∃ v, e = .returned v ∧ w'.ownsRow w.heap.size 5 1 v 0 [] ∧ Below w.heap.size w w' := by
  rcases Nat.eq_zero_or_pos n with h0 | h0
  · subst h0
    refine callsIn_of_wp Tryd.func60 rfl trivial ?_ rfl
    simp only [Tryd.ntmps60, List.size_toArray, List.length_cons, List.length_nil, Nat.reduceAdd, Nat.reduceSub, Array.replicate_succ, Array.replicate_zero, List.push_toArray, List.append_toArray, List.nil_append, List.cons_append]
    gi_wp2
    go_ret
    exact ⟨_, rfl, World.ownsRow_nil _ _ _ _, Below.refl _ _⟩
  · obtain ⟨i0, hi, hz0, hz1, hz2⟩ := info_parts info_u8
    have hrun := fun ty => Go.Lib.run_append_nil_zeros (P := Tryd.prog) w 42 3 ty 5 i0 (.int .u8 0) .i64 .i64 Tryd.underlying42 Tryd.underlying3 hi hz0 n h0 (by omega) (by omega) (by rw [hz2]; omega)
    have hc1 := grownCap_ge w n 0 5
    have hc2 := grownCap_le_maxLen w n 0 5 (by unfold maxLen; omega)
    obtain ⟨cap, hcap⟩ : ∃ cap, grownCap w n 0 5 = cap := ⟨_, rfl⟩
    obtain ⟨cs, hcs⟩ : ∃ cs, Builtin.zeroCells (Value.int .u8 0).cells n ++ Builtin.zeroCells (Value.int .u8 0).cells (grownCap w n 0 5 - n) = cs := ⟨_, rfl⟩
    have hsz : cs.size = cap := by
      rw [← hcs, hcap]
      simp [size_zeroCells, Value.cells]
      omega
    rw [hcs, hcap] at hrun
    rw [hcap] at hc1 hc2
    have HS := Lib.hid hsz
    have hlt : (0 : Int) < (n : Int) := by omega
    have hsl : ∀ w', (Instr.sliceAt 42 (.slice (some ⟨w.heap.size, 0, none⟩) n cap) none (some (.int .i64 0)) none).run Tryd.prog w' = .ok (.slice (some ⟨w.heap.size, 0, none⟩) 0 cap) w' := fun w' => run_slice_to _ 5 Tryd.underlying42 (by kernel_rfl) _ n cap 0 (by omega) w'
    clear hcs hcap hsz hi hz0 hz1 hz2
    refine callsIn_of_wp Tryd.func60 rfl trivial ?_ rfl
    simp only [Tryd.ntmps60, List.size_toArray, List.length_cons, List.length_nil, Nat.reduceAdd, Nat.reduceSub, Array.replicate_succ, Array.replicate_zero, List.push_toArray, List.append_toArray, List.nil_append, List.cons_append]
    gi_wp2_with (refine wpListIn_append_run (fun _ => trivial) rfl _ _ 42 3 rfl (.slice none 0 0) (.int .i64 (n : Int)) rfl rfl _ _ (hrun _) ?_)
    go_ret
    exact ⟨_, rfl, World.ownsRow_made _ _ _ (Nat.le_refl _) hc2 (by rw [HS.out]; omega), (Below.refl _ _).drew.alloc (Nat.le_refl _) _⟩

theorem take_flat (ps : List (List UInt8)) (k : Nat) (h : k < ps.length) : (ps.take (k + 1)).flatten = (ps.take k).flatten ++ ps.getD k [] := by
  rw [List.take_succ_eq_append_getElem h, List.flatten_append, List.getD_eq_getElem?_getD, List.getElem?_eq_getElem h]
  simp

set_option maxRecDepth 100000 in
set_option maxHeartbeats 1000000 in
theorem concat_any (Ap : Option Addr) (cp : Nat) (ps : List (List UInt8)) (hps : ps.length ≤ 140737488351232) (hL : ps.flatten.length ≤ 1099511627776) (w : World) (hr : RdP w (fun b => b < w.heap.size) Ap ps) :
    CallsIn Fence.wide 0 Tryd.prog 42 #[.slice Ap ps.length cp] w fun e w' => ∃ v, e = .returned v ∧ w'.ownsRow w.heap.size 5 1 v ps.flatten.length (ps.flatten.map bv) ∧ Below w.heap.size w w' := by
  have HR := Lib.hid hr
  obtain ⟨np, hnp⟩ : ∃ np, ps.length = np := ⟨_, rfl⟩
  rw [hnp] at hps ⊢
  have HN := Lib.hid hnp
  clear hr hnp
  refine callsIn_of_wp Tryd.func42 rfl trivial ?_ rfl
  simp only [Tryd.ntmps42, List.size_toArray, List.length_cons, List.length_nil, Nat.reduceAdd, Nat.reduceSub, Array.replicate_succ, Array.replicate_zero, List.push_toArray, List.append_toArray, List.nil_append, List.cons_append]
  gi_wp2
  gi_loopw [3, 11] (fun s i wr => ∃ k, k ≤ np ∧ i = .int .i64 ((k : Nat) : Int) ∧ s = .int .i64 ((pos ps k : Nat) : Int) ∧ w = wr) (fun _ i _ => np - (intOf i).toNat)
  case atStart => exact ⟨0, Nat.zero_le _, rfl, by rw [pos_zero]; rfl, rfl⟩
  case round =>
    obtain ⟨k, hk, rfl, rfl, rfl⟩ := hrel
    by_cases hlt : k < np
    · obtain ⟨ad, v, rfl, hok, hcell, A0, c0, rfl, hc0, hn0, hcs0⟩ := HR.out k (by rw [HN.out]; exact hlt)
      have hp1 := pos_succ ps k (by rw [HN.out]; exact hlt)
      have hp2 := pos_le ps (k + 1) (by rw [HN.out]; exact hlt)
      clear hcs0
      obtain ⟨p, hp⟩ : ∃ p, pos ps k = p := ⟨_, rfl⟩
      obtain ⟨p', hp'⟩ : ∃ p', pos ps (k + 1) = p' := ⟨_, rfl⟩
      obtain ⟨m, hm⟩ : ∃ m, (ps.getD k []).length = m := ⟨_, rfl⟩
      rw [hp, hp', hm] at hp1
      rw [hp'] at hp2
      rw [hm] at hcell hc0 hn0
      rw [hp]
      have HP := Lib.hid hp'
      have e2 : Hid ((p : Int) + (m : Int) = (p' : Int)) := Lib.hid (by omega)
      have hnn : (p : Int) + (m : Int) ≤ 1099511627776 := by omega
      clear hp hp' hm hp1 hp2
      gi_wp2
      refine ⟨⟨k + 1, hlt, by go_num, by rw [HP.out, ← e2.out], by simp⟩, by simp [intOf]; omega⟩
    · obtain rfl : k = np := by omega
      have hpf : pos ps k = ps.flatten.length := by rw [← HN.out, pos_full]
      have HPF := Lib.hid hpf
      rw [hpf]
      clear hpf hlt hk
      obtain ⟨n, hn⟩ : ∃ n, ps.flatten.length = n := ⟨_, rfl⟩
      rw [hn] at hL HPF ⊢
      have HNN := Lib.hid hn
      clear hn
      obtain ⟨i0, hi, hz0, hz1, hz2⟩ := info_parts info_u8
      have HI := Lib.hid hi
      have HI0 := Lib.hid hz0
      have HI1 := Lib.hid hz1
      have HI2 := Lib.hid hz2
      clear hi hz0 hz1 hz2
      gi_wp2_with (refine ⟨trivial, rfl, ?_⟩; gi_at_call 60; refine (grow_nil n hL _).mono ?_; rintro e w1 ⟨v, rfl, hown, hb⟩)
      gi_loopw [6, 27] (fun v i wr => ∃ j, j ≤ k ∧ i = .int .i64 ((j : Nat) : Int) ∧ wr.ownsRow w.heap.size 5 1 v (pos ps j) ((ps.take j).flatten.map bv) ∧ Below w.heap.size w wr) (fun _ i _ => k - (intOf i).toNat)
      case atStart => exact ⟨0, Nat.zero_le _, rfl, by rw [pos_zero]; simpa using hown, hb⟩
      case round =>
        clear hown hb
        obtain ⟨j, hj, rfl, hown, hb⟩ := hrel
        by_cases hlt : j < k
        · obtain ⟨ad, v1, rfl, hok, hcell, hread⟩ := (HR.out.kept (W' := wr) fun a x ha h => (hb.cell (p := a) ha).trans h) j (by rw [HN.out]; exact hlt)
          have hp1 := pos_succ ps j (by rw [HN.out]; exact hlt)
          have hp2 := pos_le ps (j + 1) (by rw [HN.out]; exact hlt)
          have htf := Lib.hid (take_flat ps j (by rw [HN.out]; exact hlt))
          have HREAD := Lib.hid hread
          obtain ⟨A0, c0, rfl, hc0, hn0, hcs0⟩ := hread
          have h63 : pos ps j + (ps.getD j []).length ≤ 140737488355328 := by have := HNN.out; omega
          have HP1 := Lib.hid hp1
          clear hp1 hp2 hcs0
          gi_wp2_with (refine wpListIn_append_rd (fun _ => trivial) rfl (.tmp 31) (.tmp 32) 42 rfl w.heap.size 5 i0 (.int .u8 0) Tryd.underlying42 HI.out HI0.out HI1.out HI2.out rfl _ (pos ps j) _ rfl hown _ A0 (ps.getD j []).length c0 (ps.getD j []) rfl HREAD.out h63 hb.size ?_; intro v' w2 hown2 hg2 hat2)
          refine ⟨⟨j + 1, hlt, by go_num, ?_, hb.grown hg2 hb.size (fun q hq => (hown.lt q hq).1)⟩, by simp [intOf]; omega⟩
          rw [HP1.out, htf.out, List.map_append]
          exact hown2
        · obtain rfl : j = k := by omega
          have hfin : Hid (wr.ownsRow w.heap.size 5 1 u6 n (ps.flatten.map bv)) := Lib.hid (by
            have := hown
            rw [HPF.out] at this
            rwa [show ps.take j = ps from by rw [← HN.out]; simp] at this)
          clear hown
          gi_wp2
          go_ret
          exact ⟨_, rfl, by rw [HNN.out]; exact hfin.out, hb⟩

end Go.Proofs.YtkbdkeclbokhdaaDoor
