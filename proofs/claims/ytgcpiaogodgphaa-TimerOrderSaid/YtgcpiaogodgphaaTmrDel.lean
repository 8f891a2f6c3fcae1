/-
  Timers: those that are over, taken away in place. No condition.
-/
import Derived.Test.YtgcpiaogodgphaaTmrIdx
namespace Go.Proofs.Ytgcpiaogodgphaa
open Go Go.RowKit

def keepL (now : Int) (l : List (List Int)) : List (List Int) := l.filter fun x => !dueL now x
theorem keepL_take {now : Int} {l : List (List Int)} {j : Nat} {x : List Int} (h : l[j]? = some x) : keepL now (l.take (j + 1)) = keepL now (l.take j) ++ (if dueL now x = true then [] else [x]) := by
  unfold keepL
  rw [List.take_add_one, h, List.filter_append]
  congr 1
  cases hd : dueL now x <;> simp [hd]
theorem keepL_none {now : Int} {l : List (List Int)} (h : ∀ i y, i < l.length → l[i]? = some y → dueL now y = false) : keepL now l = l := by
  unfold keepL
  refine List.filter_eq_self.2 fun x hx => ?_
  obtain ⟨i, hi⟩ := List.getElem?_of_mem hx
  rw [h i x (List.getElem?_eq_some_iff.1 hi).1 hi]
  rfl
theorem keepL_le (now : Int) (l : List (List Int)) : (keepL now l).length ≤ l.length := List.length_filter_le _ _
theorem idx_cases (now : Int) (l : List (List Int)) : (idxV now l = -1 ∧ keepL now l = l) ∨ ∃ i0 x, i0 < l.length ∧ idxV now l = (i0 : Int) ∧ l[i0]? = some x ∧ dueL now x = true ∧ keepL now (l.take i0) = l.take i0 := by
  cases h : l.findIdx? (dueL now) with
  | none =>
    rw [List.findIdx?_eq_none_iff] at h
    have h' : ∀ i y, i < l.length → l[i]? = some y → dueL now y = false := fun i y _ hy => h y (List.mem_of_getElem? hy)
    exact .inl ⟨idx_none h', keepL_none h'⟩
  | some i0 =>
    rw [List.findIdx?_eq_some_iff_getElem] at h
    obtain ⟨hlt, hx, hpre⟩ := h
    have hp : ∀ i y, i < i0 → l[i]? = some y → dueL now y = false := fun i y hi hy => by
      have := hpre i hi
      rw [(List.getElem?_eq_some_iff.1 hy).2] at this
      simpa using this
    refine .inr ⟨i0, l[i0], hlt, idx_some (List.getElem?_eq_getElem hlt) hx hp, List.getElem?_eq_getElem hlt, hx, keepL_none fun i y hi hy => ?_⟩
    rw [List.length_take] at hi
    rw [List.getElem?_take_of_lt (by omega)] at hy
    exact hp i y (by omega) hy
theorem wpList_slice_run {P : Program} {ops : Array Oper} {rest : List Oper} {o : Oper} {a : Act} {w : World} {Q : Exit → Act → World → Prop} (hgd : o.guard = none) (t : TypeId) (x : Operand) (lo hi : Option Operand) (ho : o.op = .slice t x lo hi none) (vx : Value) (hx : a.eval x = vx) (vlo vhi : Option Value) (hlo : lo.map a.eval = vlo) (hhi : hi.map a.eval = vhi) (v : Value)
    (hrun : (Instr.sliceAt t vx vlo vhi none).run P w = .ok v w) (h : wpList P ops Q rest (a.put o.dst v) w) : wpList P ops Q (o :: rest) a w := by
  refine wpList_plain hgd fun K hK => ?_
  subst hlo hhi
  unfold Oper.wp
  simp [execOp, ho, hx, hrun, Result.andThen, Oper.upon]
  exact hK _ _ h
theorem slice_from (B i n : Nat) (hi : i ≤ n) (hn : i < 40) (w : World) : (Instr.sliceAt 53 (.slice (some ⟨B, 2, none⟩) n 40) (some (.int .i64 (i : Int))) none none).run Try.prog w = .ok (.slice (some ⟨B, 2 + i * 3, none⟩) (n - i) (40 - i)) w := by
  have e : (⟨B, 2, none⟩ : Addr).add (i * 3) = ⟨B, 2 + i * 3, none⟩ := by unfold Addr.add; simp
  have h40 : ¬ 40 = i := by omega
  simp [Instr.sliceAt, Instr.slice, run_underlying Try.underlying53, Instr.sliceBounds, Instr.sliceBound, asIntOf, Sem.run_bind, e, hi, h40]
theorem slice_to (B i n : Nat) (hi : i ≤ 40) (w : World) : (Instr.sliceAt 53 (.slice (some ⟨B, 2, none⟩) n 40) none (some (.int .i64 (i : Int))) none).run Try.prog w = .ok (.slice (some ⟨B, 2, none⟩) i 40) w := by
  have e : (⟨B, 2, none⟩ : Addr).add 0 = ⟨B, 2, none⟩ := by unfold Addr.add; simp
  have hi' : (i : Int) ≤ 40 := by omega
  simp [Instr.sliceAt, Instr.slice, run_underlying Try.underlying53, Instr.sliceBounds, Instr.sliceBound, asIntOf, Sem.run_bind, e, hi]
theorem alarm_zero (w : World) : (zeroValue 25).run Try.prog w = .ok (.agg #[.int .i64 0, .int .i64 0, .int .i64 0]) w := by kernel_rfl
theorem run_clear_alarms {w : World} {B t : Nat} {G : Nat → Int} (h : Blk w B t (intN 122 G)) (i m c : Nat) (hm : 0 < m) (hfit : 2 + i * 3 + m * 3 ≤ 122) (ty : TypeId) : (Builtin.clear_ #[53] ty #[.slice (some ⟨B, 2 + i * 3, none⟩) m c]).run Try.prog w = .ok (.tuple #[]) (w.setRow B (intN 122 (putF G (2 + i * 3) (List.replicate (m * 3) 0)))) := by
  have hzc : (Builtin.zeroCells (Value.agg #[.int .i64 0, .int .i64 0, .int .i64 0]).cells m).toList = ic (List.replicate (m * 3) 0) := by
    simp [Builtin.zeroCells, Value.cells, ic]
    apply List.ext_getElem
    · simp
    · intro i h1 h2
      simp
      have : i % 3 = 0 ∨ i % 3 = 1 ∨ i % 3 = 2 := by omega
      rcases this with h | h | h <;> simp [h]
  have hst := run_storeCells_at (P := Try.prog) B (2 + i * 3) t (ic (List.replicate (m * 3) 0)) 0 (intN 122 G) w h (by rw [ic_length, intN_size, List.length_replicate]; omega) (ic_one _)
  rw [Nat.add_zero, intN_put 122 G (2 + i * 3) (List.replicate (m * 3) 0) (by rw [List.length_replicate]; omega)] at hst
  obtain ⟨k, rfl⟩ : ∃ k, m = k + 1 := ⟨m - 1, by omega⟩
  simp [Builtin.clear_, run_underlying Try.underlying53, hzc, hst]
/-- Between two rounds: the first i are those that stay of the first j. -/
structure DelR (W W' : World) (B : Nat) (now : Int) (l : List (List Int)) (n j i : Nat) (G : Nat → Int) : Prop where
  blk : Blk W' B 28 (intN 122 G)
  nw : G 0 = now
  pre : ∀ q x, (keepL now (l.take j))[q]? = some x → ∀ m, m < 3 → G (2 + 3 * q + m) = x.getD m 0
  post : ∀ q x, j ≤ q → l[q]? = some x → ∀ m, m < 3 → G (2 + 3 * q + m) = x.getD m 0
  len : (keepL now (l.take j)).length = i
  lt : i < j ∧ j ≤ n
  grown : W.grownBy W' (some B)
theorem DelR.kept {W W' W'' : World} {B : Nat} {now : Int} {l : List (List Int)} {n j i : Nat} {G : Nat → Int} (h : DelR W W' B now l n j i G) (hb : Below W'.heap.size W' W'') : DelR W W'' B now l n j i G :=
  ⟨h.blk.below hb h.blk.lt, h.nw, h.pre, h.post, h.len, h.lt, grown_trans' h.grown (grown_below hb _)⟩
theorem DelR.drop {W W' : World} {B : Nat} {now : Int} {l : List (List Int)} {n j i : Nat} {G : Nat → Int} {x : List Int} (h : DelR W W' B now l n j i G) (hx : l[j]? = some x) (hd : dueL now x = true) (hj : j < n) : DelR W W' B now l n (j + 1) i G := by
  have e := keepL_take (now := now) hx
  rw [if_pos hd, List.append_nil] at e
  exact ⟨h.blk, h.nw, by rw [e]; exact h.pre, fun q y hq => h.post q y (by omega), by rw [e]; exact h.len, by have := h.lt; omega, h.grown⟩
theorem DelR.keep {W W' W'' : World} {B : Nat} {now : Int} {l : List (List Int)} {n j i : Nat} {G : Nat → Int} {x : List Int} (h : DelR W W' B now l n j i G) (hx : l[j]? = some x) (h3 : x.length = 3) (hd : dueL now x = false) (hj : j < n) (hw : W'' = W'.setRow B (intN 122 (putF G (2 + i * 3) x))) : DelR W W'' B now l n (j + 1) (i + 1) (putF G (2 + i * 3) x) := by
  have e := keepL_take (now := now) hx
  rw [if_neg (by rw [hd]; simp)] at e
  subst hw
  refine ⟨h.blk.setRow _, by rw [putF_out (by omega)]; exact h.nw, fun q y hq m hm => ?_, fun q y hq hy m hm => ?_, by rw [e, List.length_append, h.len]; rfl, by have := h.lt; omega, grown_trans' h.grown (grown_setRow _ _ _)⟩
  · rw [e] at hq
    rcases Nat.lt_or_ge q i with hqi | hqi
    · rw [List.getElem?_append_left (by rw [h.len]; exact hqi)] at hq
      rw [putF_out (.inl (by omega))]
      exact h.pre q y hq m hm
    · have hql := (List.getElem?_eq_some_iff.1 hq).1
      rw [List.length_append, h.len, List.length_singleton] at hql
      obtain rfl : q = i := by omega
      rw [List.getElem?_append_right (by rw [h.len]; omega), h.len, Nat.sub_self] at hq
      simp only [List.getElem?_cons_zero, Option.some.injEq] at hq
      subst hq
      rw [Nat.mul_comm 3 q, putF_in (by omega)]
  · rw [putF_out (.inr (by have := h.lt; omega))]
    exact h.post q y (by omega) hy m hm
set_option maxRecDepth 100000 in
set_option maxHeartbeats 4000000 in
theorem delete_any {W : World} {B c : Nat} {now : Int} {l : List (List Int)} (h : TimerAt W B now l) (hc : Blk W c 40 #[.pointer (some ⟨B, 0, none⟩)]) (hok : OkL now l) :
    Calls Try.prog 20 #[.slice (some ⟨B, 2, none⟩) l.length 40, .func (.func 18) #[] #[.pointer (some ⟨c, 0, none⟩)]] W fun e w' => e = .returned (.slice (some ⟨B, 2, none⟩) (keepL now l).length 40) ∧
      (∃ G, Blk w' B 28 (intN 122 G) ∧ G 0 = now ∧ ∀ q x, (keepL now l)[q]? = some x → ∀ m, m < 3 → G (2 + 3 * q + m) = x.getD m 0) ∧ W.grownBy w' (some B) := by
  have hcB : c ≠ B := by
    rintro rfl
    obtain ⟨F, hk, _⟩ := h
    have h1 := hk.cell 1
    rw [hc.cell, intN, arr_get, if_pos (by omega)] at h1
    simp at h1
  have HIX := Lib.hid (index_any h hc hok)
  obtain ⟨n, hn⟩ : ∃ n, l.length = n := ⟨_, rfl⟩
  have hn40 : n ≤ 40 := by obtain ⟨F, _, _, _, h2, _⟩ := h; omega
  have HT := Lib.hid h
  have HC := Lib.hid hc
  have HOK := Lib.hid hok
  have HTH : Hid (∀ x ∈ l, x.length = 3) := Lib.hid (by obtain ⟨F, _, _, _, _, h3, _⟩ := h; exact h3)
  have HCB := Lib.hid hcB
  rcases idx_cases now l with ⟨hi, hkl⟩ | ⟨i0, x0, hlt0, hi, hx0, hd0, hk0⟩
  · rw [hkl]
    rw [hi] at HIX
    rw [hn] at HIX ⊢
    have HKL := Lib.hid hkl
    clear h hc hok hn hi hkl hcB
    go_enter Try.func20, Try.ntmps20
    go_wp2_with (first
      | (go_at_call 22; refine HIX.out.mono ?_; rintro e W1 ⟨rfl, hb1⟩; have HB1 := Lib.hid hb1; clear hb1))
    go_ret
    refine ⟨rfl, ?_, grown_below HB1.out _⟩
    obtain ⟨F, hk, h0, _, _, _, h4⟩ := HT.out.below HB1.out
    exact ⟨F, hk, h0, h4⟩
  · rw [hi] at HIX
    rw [hn] at HIX hlt0 ⊢
    have HN := Lib.hid hn
    have H0 : Hid (∀ W1, Below W.heap.size W W1 → ∃ G, DelR W W1 B now l n (i0 + 1) i0 G) := Lib.hid fun W1 hb => by
      obtain ⟨F, hk, h0, _, _, _, h4⟩ := h.below hb
      have e := keepL_take (now := now) hx0
      rw [if_pos hd0, List.append_nil, hk0] at e
      refine ⟨F, hk, h0, fun q x hq => ?_, fun q x _ hq => h4 q x hq, by rw [e, List.length_take, hn]; omega, by omega, grown_below hb _⟩
      rw [e, List.getElem?_take] at hq
      split at hq
      · exact h4 q x hq
      · cases hq
    clear h hc hok hn hi hcB hx0 hd0 hk0
    have hi0 : ((i0 : Int) == -1) = false := beq_eq_false_iff_ne.2 (by omega)
    go_enter Try.func20, Try.ntmps20
    go_upto_region 5 with (first
      | (go_at_call 22; refine HIX.out.mono ?_; rintro e W1 ⟨rfl, hb1⟩; have HB1 := Lib.hid hb1; clear hb1))
    go_loopw [5, 6] (fun s5 s6 wr => ∃ (j i : Nat) (G : Nat → Int), s5 = .int .i64 (i : Int) ∧ s6 = .int .i64 (j : Int) ∧ DelR W wr B now l n j i G) (fun _ s6 _ => n - (intOf s6).toNat)
    case atStart =>
      obtain ⟨G, hG⟩ := H0.out _ HB1.out
      exact ⟨i0 + 1, i0, G, rfl, by go_num, hG⟩
    case round =>
      obtain ⟨j, i, G, rfl, rfl, hp⟩ := hrel
      have HP := Lib.hid hp
      obtain ⟨hij, hjn⟩ := hp.lt
      clear hp
      by_cases hlt : j < n
      · have hji : (j : Int) < (n : Int) := by omega
        have hj0 : (0 : Int) ≤ (j : Int) := by omega
        have hii : (i : Int) < (n : Int) := by omega
        have hi1 : (0 : Int) ≤ (i : Int) := by omega
        obtain ⟨x, hx⟩ : ∃ x, l[j]? = some x := ⟨_, List.getElem?_eq_getElem (by rw [HN.out]; exact hlt)⟩
        obtain ⟨r, s, t, rfl⟩ := three (HTH.out x (List.mem_of_getElem? hx))
        have hq := HP.out.post j _ (Nat.le_refl _) hx
        have HLD := Lib.hid (load_alarm (off := 2 + j * 3) (r := r) (s := s) (t := t) HP.out.blk (by omega) (by have := hq 0 (by omega); rw [Nat.mul_comm]; simpa using this) (by have := hq 1 (by omega); rw [Nat.mul_comm]; simpa using this) (by have := hq 2 (by omega); rw [Nat.mul_comm]; simpa using this))
        have hbd := HOK.out.2 _ (List.mem_of_getElem? hx)
        have HX := Lib.hid hx
        have HBD : Hid (0 ≤ t ∧ t ≤ now ∧ now ≤ 1000000) := Lib.hid ⟨by simpa using hbd.1, by simpa using hbd.2, HOK.out.1⟩
        have hdv : dueL now [r, s, t] = decide (dly r ≤ now - t) := rfl
        have HDV := Lib.hid hdv
        clear hx hbd hdv hq
        go_upto_region 8 with (first
          | (guard_target = wpList _ _ _ (Oper.mk _ (.load 25 _) _ _ _ _ :: _) _ _; refine wpList_load_runT (by rfl) 25 _ rfl (.pointer (some ⟨B, 2 + j * 3, none⟩)) (.agg #[.int .i64 r, .int .i64 s, .int .i64 t]) rfl (HLD.out) ?_))
        obtain ⟨W9, hW9⟩ : ∃ z, wr.alloc (.cells #[.int .i64 r, .int .i64 s, .int .i64 t] 25) = z := ⟨_, rfl⟩
        have hb9 : Below wr.heap.size wr W9 := by rw [← hW9]; exact (Below.refl _ _).alloc (Nat.le_refl _) _
        have HK9 : Hid (Blk W9 wr.heap.size 25 #[.int .i64 r, .int .i64 s, .int .i64 t]) := Lib.hid (by rw [← hW9]; exact Blk.new _ _ _)
        have HP9 := Lib.hid (HP.out.kept hb9)
        rw [hW9]
        clear hW9 hb9
        have HDU := Lib.hid (due_any W9 c B now r s t ((HC.out.grown HP9.out.grown (fun e => HCB.out (Option.some.inj e)))) ((intN_cell HP9.out.blk (by omega)).trans (by rw [HP9.out.nw])) HBD.out)
        generalize decide (dly r ≤ now - t) = d at HDU HDV
        have hl9 : ∀ W', Blk W' wr.heap.size 25 #[.int .i64 r, .int .i64 s, .int .i64 t] → (Instr.loadAt 25 (.pointer (some ⟨wr.heap.size, 0, none⟩))).run Try.prog W' = .ok (.agg #[.int .i64 r, .int .i64 s, .int .i64 t]) W' := fun W' h => run_loadVar_row W' wr.heap.size 25 25 #[.int .i64 r, .int .i64 s, .int .i64 t] (0, 0) _ h Try.underlying25 rfl alarm_info
        have HL9 := Lib.hid hl9
        clear hl9
        cases d with
        | true =>
          go_wp2_with (first
            | (guard_target = wpList _ _ _ (Oper.mk _ (.load 25 _) _ _ _ _ :: _) _ _; refine wpList_load_runT (by rfl) 25 _ rfl (.pointer (some ⟨wr.heap.size, 0, none⟩)) (.agg #[.int .i64 r, .int .i64 s, .int .i64 t]) rfl (HL9.out _ HK9.out) ?_)
            | (go_at_call 18; refine HDU.out.mono ?_; rintro e W5 ⟨rfl, hb5⟩; have HP5 := Lib.hid (HP9.out.kept hb5); clear hb5))
          go_roundw
          case rel => exact ⟨j + 1, i, G, rfl, by go_num, HP5.out.drop HX.out HDV.out hlt⟩
          case measure => simp [intOf]; omega
        | false =>
          go_wp2_with (first
            | (guard_target = wpList _ _ _ (Oper.mk _ (.load 25 _) _ _ _ _ :: _) _ _; refine wpList_load_runT (by rfl) 25 _ rfl (.pointer (some ⟨wr.heap.size, 0, none⟩)) (.agg #[.int .i64 r, .int .i64 s, .int .i64 t]) rfl (HL9.out _ (by first | exact HK5.out | exact HK9.out)) ?_)
            | (guard_target = wpList _ _ _ (Oper.mk _ (.store 25 _ _) _ _ _ _ :: _) _ _; refine wpList_store_ic rfl 25 _ _ rfl B (2 + i * 3) 122 G [r, s, t] rfl rfl 28 HP5.out.blk alarm_info (by simp; omega) ?_; intro W6 hw6; have HP6 := Lib.hid (HP5.out.keep HX.out rfl HDV.out hlt hw6); clear hw6)
            | (go_at_call 18; refine HDU.out.mono ?_; rintro e W5 ⟨rfl, hb5⟩; have HP5 := Lib.hid (HP9.out.kept hb5); have HK5 := Lib.hid (HK9.out.below hb5 HK9.out.lt); clear hb5))
          go_roundw
          case rel => exact ⟨j + 1, i + 1, _, by go_num, by go_num, HP6.out⟩
          case measure => simp [intOf]; omega
      · obtain rfl : j = n := by omega
        have hji : ¬ (j : Int) < (j : Int) := by omega
        have hcl := run_clear_alarms HP.out.blk i (j - i) (40 - i) (by omega) (by omega)
        have hsf := slice_from B i j (by omega) (by omega)
        have hst := slice_to B i j (by omega)
        have HFIN : Hid ((keepL now l).length = i ∧ (∃ G', Blk (wr.setRow B (intN 122 (putF G (2 + i * 3) (List.replicate ((j - i) * 3) 0)))) B 28 (intN 122 G') ∧ G' 0 = now ∧ ∀ q x, (keepL now l)[q]? = some x → ∀ m, m < 3 → G' (2 + 3 * q + m) = x.getD m 0) ∧ W.grownBy (wr.setRow B (intN 122 (putF G (2 + i * 3) (List.replicate ((j - i) * 3) 0)))) (some B)) := Lib.hid (by
          have htk : l.take j = l := List.take_of_length_le (Nat.le_of_eq HN.out)
          have hlen := HP.out.len
          have hpre := HP.out.pre
          rw [htk] at hlen hpre
          refine ⟨hlen, ⟨_, HP.out.blk.setRow _, by rw [putF_out (by omega)]; exact HP.out.nw, fun q x hq m hm => ?_⟩, grown_trans' HP.out.grown (grown_setRow _ _ _)⟩
          have hql := (List.getElem?_eq_some_iff.1 hq).1
          rw [putF_out (.inl (by omega))]
          exact hpre q x hq m hm)
        go_wp2_with (first
          | (guard_target = wpList _ _ _ (Oper.mk _ (.slice 53 _ _ none none) _ _ _ _ :: _) _ _; refine wpList_slice_run rfl 53 _ _ _ rfl _ rfl (some (.int .i64 (i : Int))) none rfl rfl _ (hsf _) ?_)
          | (guard_target = wpList _ _ _ (Oper.mk _ (.slice 53 _ none _ none) _ _ _ _ :: _) _ _; refine wpList_slice_run rfl 53 _ _ _ rfl _ rfl none (some (.int .i64 (i : Int))) rfl rfl _ (hst _) ?_))
        go_ret
        exact ⟨by rw [HFIN.out.1]; rfl, HFIN.out.2⟩
end Go.Proofs.Ytgcpiaogodgphaa
