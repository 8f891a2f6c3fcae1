/-
  Audit: what wasn't handed in. In whatever memory. No condition.
-/
import Derived.Test.YtalacjmcllfdhaaAudNum
namespace Go.Proofs.Ytalacjmcllfdhaa
open Go Go.RowKit Go.Shelf Go.Maps

/-- The first that isn't one of some others. -/
def foreignL (l h : List (List UInt8)) : Option Nat := (List.range l.length).find? fun k => decide (l.getD k [] ∉ h)
theorem foreignL_some {l h : List (List UInt8)} {k : Nat} (hk : k < l.length) (hd : l.getD k [] ∉ h) (hb : ∀ j, j < k → l.getD j [] ∈ h) : foreignL l h = some k := by
  unfold foreignL
  rw [List.find?_range_eq_some]
  exact ⟨by simpa using hd, List.mem_range.2 hk, fun j hj => by simpa using hb j hj⟩
theorem foreignL_none {l h : List (List UInt8)} (hb : ∀ j, j < l.length → l.getD j [] ∈ h) : foreignL l h = none := by
  unfold foreignL
  rw [List.find?_eq_none]
  intro j hj
  simpa using hb j (List.mem_range.1 hj)
def forB (l h : List (List UInt8)) : Int × Bool := match foreignL l h with
  | some k => ((k : Int), true)
  | none => (0, false)
theorem key_inj {j k : List UInt8} (h : (Value.string ⟨j.toArray⟩) = .string ⟨k.toArray⟩) : j = k := by
  injection h with h
  exact ba_inj h
/-- Block b is the set of these texts. -/
def SetM (W : World) (b n : Nat) (S : List (List UInt8)) : Prop := ∃ M, MapV Try.prog 9 W b n M ∧ ∀ k : List UInt8, M (.string ⟨k.toArray⟩) = if k ∈ S then some (.agg #[]) else none
theorem setM_made (w : World) : SetM (w.alloc (.map #[] 0)) w.heap.size 0 [] := ⟨_, mapV_made _ _ w, fun k => by simp⟩
theorem unit_zero (w : World) : (zeroValue 65).run Try.prog w = .ok (.agg #[]) w := by kernel_rfl
section
variable {W W' : World} {b n : Nat} {S : List (List UInt8)}
theorem SetM.same (h : SetM W b n S) (hb : W'.heap[b]? = W.heap[b]?) : SetM W' b n S := by
  obtain ⟨M, h1, h2⟩ := h
  exact ⟨M, h1.same hb, h2⟩
theorem SetM.lt (h : SetM W b n S) : b < W.heap.size := by
  obtain ⟨M, h1, h2⟩ := h
  exact h1.lt
theorem SetM.put {k : List UInt8} {M : Value → Option Value} (h2 : ∀ k : List UInt8, M (.string ⟨k.toArray⟩) = if k ∈ S then some (.agg #[]) else none) (hm : MapV Try.prog 9 W b n (putV M (.string ⟨k.toArray⟩) (.agg #[]))) : SetM W b n (S ++ [k]) := by
  refine ⟨_, hm, fun j => ?_⟩
  by_cases e : j = k
  · subst e
    rw [putV_same, if_pos (by simp)]
  · rw [putV_other (fun h => e (key_inj h)), h2 j]
    by_cases hs : j ∈ S
    · rw [if_pos hs, if_pos (by simp [hs])]
    · rw [if_neg hs, if_neg (by simp [hs, e])]
end
section
variable {ops : Array Oper} {rest : List Oper} {o : Oper} {a : Act} {w : World} {Q : Exit → Act → World → Prop} {b n : Nat} {S : List (List UInt8)}
theorem wpList_set_look (hg : o.guard = none) (m x : Operand) (hop : o.op = Op.lookup 64 m x true) (hm : a.eval m = .map (some b)) (h : SetM w b n S) (k : List UInt8) (hx : a.eval x = .string ⟨k.toArray⟩) (hk : k.length ≤ 1000) (hK : wpList Try.prog ops Q rest (a.put o.dst (.tuple #[.agg #[], .bool (decide (k ∈ S))])) w) : wpList Try.prog ops Q (o :: rest) a w := by
  obtain ⟨M, h1, h2⟩ := h
  refine wpList_lookupOk_V hg m x 64 hop 9 65 str_law Try.underlying64 (unit_zero w) b n M hm h1 _ hx ⟨_, key_str hk⟩ ?_
  rw [h2 k]
  by_cases hs : k ∈ S
  · rw [if_pos hs]
    rw [decide_eq_true hs] at hK
    exact hK
  · rw [if_neg hs]
    rw [decide_eq_false hs] at hK
    exact hK
theorem wpList_set_store (hg : o.guard = none) (m x v : Operand) (hop : o.op = Op.mapUpdate 64 m x v) (hm : a.eval m = .map (some b)) (h : SetM w b n S) (hn : n < maxLen) (k : List UInt8) (hx : a.eval x = .string ⟨k.toArray⟩) (hv : a.eval v = .agg #[]) (hk : k.length ≤ 1000)
    (hK : ∀ w', SetM w' b (n + 1) (S ++ [k]) → w.mapTurned w' b → wpList Try.prog ops Q rest (a.put o.dst undef) w') : wpList Try.prog ops Q (o :: rest) a w := by
  obtain ⟨M, h1, h2⟩ := h
  exact wpList_store_V hg m x v 64 hop 9 65 str_law Try.underlying64 b n M hm h1 hn _ _ hx hv ⟨_, key_str hk⟩ fun w' r1 r2 => hK w' (SetM.put h2 r1) r2
end
set_option maxRecDepth 100000 in
set_option maxHeartbeats 8000000 in
theorem foreign_any (A A2 : Option Addr) (c c2 : Nat) (l h : List (List UInt8)) (w : World) (hr : RdP w (fun b => b < w.heap.size) A l) (hr2 : RdP w (fun b => b < w.heap.size) A2 h) (hl : l.length ≤ 1000) (hh : h.length ≤ 1000) (hb : ∀ b ∈ l, b.length ≤ 1000) (hb2 : ∀ b ∈ h, b.length ≤ 1000) :
    Calls Try.prog 12 #[.slice A l.length c, .slice A2 h.length c2] w fun e w' => e = .returned (.tuple #[.int .i64 (forB l h).1, .bool (forB l h).2]) ∧ Below w.heap.size w w' := by
  have HR := Lib.hid hr
  have HR2 := Lib.hid hr2
  have HB := Lib.hid (And.intro hb hb2)
  obtain ⟨n, hn⟩ : ∃ z, l.length = z := ⟨_, rfl⟩
  obtain ⟨m, hm⟩ : ∃ z, h.length = z := ⟨_, rfl⟩
  rw [hn] at hl ⊢
  rw [hm] at hh ⊢
  have HN := Lib.hid (And.intro hn hm)
  have hmm := @run_makeMap Try.prog
  clear hr hr2 hb hb2 hn hm
  go_enter Try.func12, Try.ntmps12
  go_upto_region 2 with fail
  obtain ⟨W0, hW0⟩ : ∃ z, w.alloc (.map #[] 0) = z := ⟨_, rfl⟩
  have HST : Hid (SetM W0 w.heap.size 0 [] ∧ Below w.heap.size w W0) := Lib.hid (by rw [← hW0]; exact ⟨setM_made w, (Below.refl _ _).alloc (Nat.le_refl _) _⟩)
  rw [hW0]
  clear hW0 hmm
  go_wp2_with fail
  go_loopw [16] (fun i wr => ∃ k : Nat, k ≤ m ∧ i = .int .i64 (k : Int) ∧ SetM wr w.heap.size k (h.take k) ∧ Below w.heap.size w wr) (fun i _ => m - (intOf i).toNat)
  case atStart => exact ⟨0, Nat.zero_le _, rfl, HST.out⟩
  case round =>
    clear HST
    obtain ⟨k, hk, rfl, hst, hbw⟩ := hrel
    obtain ⟨wk, hwk⟩ : ∃ z, z = wr := ⟨_, rfl⟩
    subst hwk
    by_cases hkm : k < m
    · have hki : (k : Int) < (m : Int) := by omega
      obtain ⟨ad, Ax, cx, rfl, hxl, hcx, hrx, hxn⟩ := HR2.out.at (k := k) (by rw [HN.out.2]; exact hkm)
      have htk := getD_take (l := h) [] (show k < h.length by rw [HN.out.2]; exact hkm)
      have hgm := getD_mem (l := h) [] (show k < h.length by rw [HN.out.2]; exact hkm)
      obtain ⟨x, hx⟩ : ∃ z, h.getD k [] = z := ⟨_, rfl⟩
      rw [hx] at hcx hrx htk hgm
      have HX1000 := Lib.hid (HB.out.2 x hgm)
      have hcw := (hbw.cell (p := ad.add k) (by rw [block_add]; exact hxl)).trans hcx
      have hcv := str_rd (hrx.kept (W' := wk) fun p u hp q => (hbw.cell (p := p) hp).trans q)
      obtain ⟨xn, hxn2⟩ : ∃ z, x.length = z := ⟨_, rfl⟩
      rw [hxn2] at hcw hcv
      have HST := Lib.hid hst
      have HBW := Lib.hid hbw
      have HTK := Lib.hid htk
      have HSZ : Hid (k < maxLen) := Lib.hid (by unfold maxLen; omega)
      clear hcx hrx hgm hx hxl hxn hxn2 hst hbw htk
      go_wp2_with (guard_target = wpList _ _ _ (Oper.mk _ (.mapUpdate _ _ _ _) _ _ _ _ :: _) _ _; refine wpList_set_store rfl _ _ _ rfl rfl HST.out HSZ.out x rfl rfl HX1000.out ?_; intro w5 hm5 ht5; have H5 : Hid (SetM w5 w.heap.size (k + 1) (h.take (k + 1)) ∧ Below w.heap.size w w5) := Lib.hid ⟨by rw [HTK.out]; exact hm5, below_turnA HBW.out (Nat.le_refl _) (turn_map ht5) fun i hi => by omega⟩; clear hm5 ht5)
      go_roundw
      · exact ⟨k + 1, by omega, by go_num, H5.out⟩
      · simp [intOf]
        omega
    · obtain rfl : k = m := by omega
      have HST : Hid (SetM wk w.heap.size k h ∧ Below w.heap.size w wk) := Lib.hid ⟨by rw [← HN.out.2, List.take_length] at hst; rw [← HN.out.2]; exact hst, hbw⟩
      clear hst hbw
      go_wp2_with fail
      go_loopw [27] (fun i wr => ∃ q : Nat, q ≤ n ∧ i = .int .i64 (q : Int) ∧ Below wk.heap.size wk wr ∧ ∀ j, j < q → l.getD j [] ∈ h) (fun i _ => n - (intOf i).toNat)
      case atStart => exact ⟨0, Nat.zero_le _, rfl, Below.refl _ _, fun j hj => by omega⟩
      case round =>
        obtain ⟨q, hq, rfl, hbq, hall⟩ := hrel
        obtain ⟨wq, hwq⟩ : ∃ z, z = wr := ⟨_, rfl⟩
        subst hwq
        have HALL := Lib.hid hall
        have HBQ := Lib.hid hbq
        have HOLD := Lib.hid (HST.out.2.trans (hbq.mono HST.out.2.size))
        by_cases hqn : q < n
        · have hqi : (q : Int) < (n : Int) := by omega
          obtain ⟨ad, Ax, cx, rfl, hxl, hcx, hrx, hxn⟩ := HR.out.at (k := q) (by rw [HN.out.1]; exact hqn)
          have hgm := getD_mem (l := l) [] (show q < l.length by rw [HN.out.1]; exact hqn)
          obtain ⟨x, hx⟩ : ∃ z, l.getD q [] = z := ⟨_, rfl⟩
          have HX := Lib.hid hx
          rw [hx] at hcx hrx hgm
          have HX1000 := Lib.hid (HB.out.1 x hgm)
          have hcw := (HOLD.out.cell (p := ad.add q) (by rw [block_add]; exact hxl)).trans hcx
          have hcv := str_rd (hrx.kept (W' := wq) fun p u hp z => (HOLD.out.cell (p := p) hp).trans z)
          obtain ⟨xn, hxn2⟩ : ∃ z, x.length = z := ⟨_, rfl⟩
          rw [hxn2] at hcw hcv
          have HSQ := Lib.hid (HST.out.1.same (HBQ.out.block _ HST.out.1.lt))
          have HBA : Hid (Below wk.heap.size wk (wq.alloc (.cells #[] 65))) := Lib.hid (HBQ.out.alloc HBQ.out.size _)
          have HBA2 : Hid (Below w.heap.size w (wq.alloc (.cells #[] 65))) := Lib.hid (HOLD.out.alloc HOLD.out.size _)
          clear hcx hrx hgm hx hxl hxn hxn2 hall hbq
          by_cases hS : x ∈ h
          · have HS := Lib.hid hS
            clear hS
            go_wp2_with (guard_target = wpList _ _ _ (Oper.mk _ (.lookup _ _ _ _) _ _ _ _ :: _) _ _; refine wpList_set_look rfl _ _ rfl rfl HSQ.out x rfl HX1000.out ?_; rw [decide_eq_true HS.out])
            go_roundw
            · exact ⟨q + 1, by omega, by go_num, HBA.out, fun j hj => by
                by_cases e : j = q
                · rw [e, HX.out]
                  exact HS.out
                · exact HALL.out j (by omega)⟩
            · simp [intOf]
              omega
          · have HF : Hid (forB l h = ((q : Int), true)) := Lib.hid (by
              unfold forB
              rw [foreignL_some (by rw [HN.out.1]; exact hqn) (by rw [HX.out]; exact hS) HALL.out])
            have HS := Lib.hid hS
            clear hS
            go_wp2_with (guard_target = wpList _ _ _ (Oper.mk _ (.lookup _ _ _ _) _ _ _ _ :: _) _ _; refine wpList_set_look rfl _ _ rfl rfl HSQ.out x rfl HX1000.out ?_; rw [decide_eq_false HS.out])
            go_ret2
            exact ⟨by rw [HF.out]; rfl, HBA2.out⟩
        · obtain rfl : q = n := by omega
          have HF : Hid (forB l h = (0, false)) := Lib.hid (by
            unfold forB
            rw [foreignL_none (by rw [HN.out.1]; exact HALL.out)])
          clear hall hbq
          go_wp2
          go_ret2
          exact ⟨by rw [HF.out]; rfl, HOLD.out⟩
end Go.Proofs.Ytalacjmcllfdhaa
