/-
  pack.appendRun once more: behind a row of the call's own, with what else may lie about: nothing but the row and new memory turns. For every run shorter than 2^24.
-/
import Derived.Test.YtkbdkeclbokhdaaDoorPackRun
namespace Go.Proofs.YtkbdkeclbokhdaaDoor
open Go Go.RowKit PackMath

theorem grown_trans {w w1 w2 : World} {row row1 : Option Nat} (h : w.grownBy w1 row) (k : w1.grownBy w2 row1) (hr : row1 = row ∨ ∀ b, row1 = some b → w.heap.size ≤ b) : w.grownBy w2 row :=
  ⟨k.os.trans h.os, k.tape.trans h.tape, k.output.trans h.output, Nat.le_trans h.size k.size, fun b hb hne => (k.block b (Nat.lt_of_lt_of_le hb h.size) (by
    rcases hr with rfl | hr
    · exact hne
    · intro e
      have := hr b e.symm
      omega)).trans (h.block b hb hne)⟩
theorem app_grow {B : Nat} {w : World} (hB : B ≤ w.heap.size) {v : Value} {n : Nat} {bs : List UInt8} (hown : w.ownsRow B 5 1 v n (bs.map bv))
    {ok : Nat → Prop} {A : Option Addr} {m c : Nat} {cs : List UInt8} (hr : RdB w ok (.slice A m c) cs) (hn : 0 < n + m) (h63 : n + m ≤ 140737488351232) :
    ∃ g cap w', (Builtin.append_ #[42, 42] 42 #[v, .slice A m c]).run Tryd.prog w = .ok (.slice (some ⟨g, 0, none⟩) (n + m) cap) w' ∧
      w'.ownsRow B 5 1 (.slice (some ⟨g, 0, none⟩) (n + m) cap) (n + m) ((bs ++ cs).map bv) ∧ w.grownBy w' v.ownBlock ∧ (v.ownBlock = some g ∨ g = w.heap.size) := by
  obtain ⟨i0, hi, hz0, hz1, hz2⟩ := info_parts info_u8
  obtain ⟨v', w', hrun, hown', hgr, hbl⟩ := run_append_rd (P := Tryd.prog) w B 42 42 5 i0 (.int .u8 0) Tryd.underlying42 hi hz0 hz1 hz2 rfl v n _ hown ok A m c cs hr (by omega) hB
  rcases ownsRow_forms' hown' with ⟨_, h0⟩ | ⟨g, cap, rfl⟩
  · omega
  · refine ⟨g, cap, w', hrun, by rw [List.map_append]; exact hown', hgr, ?_⟩
    rcases hbl with h | h
    · exact .inl h.symm
    · right
      simpa [Value.ownBlock] using h
theorem grown_alloc (w : World) (o : Obj) (row : Option Nat) : w.grownBy (w.alloc o) row := ⟨rfl, rfl, rfl, by simp, fun b hb _ => Below.heap_alloc w o b hb⟩
theorem RdB.grown {w w' : World} {row : Option Nat} {ok : Nat → Prop} {v : Value} {bs : List UInt8} (h : RdB w ok v bs) (hg : w.grownBy w' row) (hok : ∀ b, ok b → some b ≠ row) : RdB w' ok v bs := h.kept fun _ _ ha hx => hg.cell hx (hok _ ha)
set_option maxRecDepth 100000 in
set_option maxHeartbeats 1000000 in
theorem appendRun_grow {B : Nat} {w : World} (hB : B ≤ w.heap.size) {n : Nat} {v : Value} {to : List UInt8} (hown : w.ownsRow B 5 1 v n (to.map bv)) (hn2 : n ≤ 1099511627776)
    {ok : Nat → Prop} (hok : ∀ b, ok b → some b ≠ v.ownBlock ∧ b < w.heap.size) {A : Option Addr} {m c : Nat} {bs : List UInt8} (hr : RdB w ok (.slice A m c) bs) (hm : bs.length = m) (hm2 : m < 16777216) :
    Calls Tryd.prog 51 #[v, .slice A m c] w fun e w' => ∃ g' cap', e = .returned (.slice (some ⟨g', 0, none⟩) (n + 3 + m) cap') ∧
      w'.ownsRow B 5 1 (.slice (some ⟨g', 0, none⟩) (n + 3 + m) cap') (n + 3 + m) ((to ++ run bs).map bv) ∧ w.grownBy w' v.ownBlock ∧ (v.ownBlock = some g' ∨ w.heap.size ≤ g') := by
  have b0 : Blk (w.alloc (.cells #[bv (UInt8.ofNat (m / 65536)), bv (UInt8.ofNat (m / 256)), bv (UInt8.ofNat m)] 5)) w.heap.size 5 #[bv (UInt8.ofNat (m / 65536)), bv (UInt8.ofNat (m / 256)), bv (UInt8.ofNat m)] := Blk.new _ _ _
  have r0 : RdB (w.alloc (.cells #[bv (UInt8.ofNat (m / 65536)), bv (UInt8.ofNat (m / 256)), bv (UInt8.ofNat m)] 5)) (fun b => b = w.heap.size) (.slice (some ⟨w.heap.size, 0, none⟩) 3 3) (len3P m) := rdB_cells (n := 3) (fun i hi => by
    rw [b0.cell]
    have : i = 0 ∨ i = 1 ∨ i = 2 := by omega
    rcases this with rfl | rfl | rfl <;> rfl) rfl (by omega) (by omega) rfl
  obtain ⟨g1, cap1, w1, run1, own1, hg1, hg1'⟩ := app_grow (w := w.alloc (.cells #[bv (UInt8.ofNat (m / 65536)), bv (UInt8.ofNat (m / 256)), bv (UInt8.ofNat m)] 5)) (by simp; omega) (hown.alloc _) r0 (by omega) (by omega)
  have hs1 := hg1.size
  have hr1 : RdB w1 ok (.slice A m c) bs := ((hr.grown (grown_alloc w (.cells #[bv (UInt8.ofNat (m / 65536)), bv (UInt8.ofNat (m / 256)), bv (UInt8.ofNat m)] 5) v.ownBlock) fun b hb => (hok b hb).1)).grown hg1 fun b hb => (hok b hb).1
  obtain ⟨g2, cap2, w2, run2, own2, hg2, hg2'⟩ := app_grow (w := w1) (by simp at hs1; omega) own1 hr1 (by omega) (by omega)
  have hG1 : w.grownBy w1 v.ownBlock := grown_trans (grown_alloc w _ _) hg1 (.inl rfl)
  have hG2 : w.grownBy w2 v.ownBlock := grown_trans hG1 hg2 (by
    rcases hg1' with h | h
    · exact .inl h.symm
    · refine .inr fun b hb => ?_
      simp only [Value.ownBlock, Option.some.injEq] at hb
      subst hb
      rw [h]
      simp)
  have hgg : v.ownBlock = some g2 ∨ w.heap.size ≤ g2 := by
    rcases hg2' with h | h
    · simp only [Value.ownBlock, Option.some.injEq] at h
      subst h
      rcases hg1' with h | h
      · exact .inl h
      · exact .inr (by rw [h]; simp)
    · exact .inr (by rw [h]; exact hG1.size)
  have e1 : IntKind.u8.wrap ((m : Int) / 65536) = ((UInt8.ofNat (m / 65536)).toNat : Int) := by rw [IntKind.wrap_u8']; simp
  have e2 : IntKind.u8.wrap ((m : Int) / 256) = ((UInt8.ofNat (m / 256)).toNat : Int) := by rw [IntKind.wrap_u8']; simp
  have e3 : IntKind.u8.wrap (m : Int) = ((UInt8.ofNat m).toNat : Int) := by rw [IntKind.wrap_u8']; simp
  have hfin : to ++ run bs = to ++ len3P m ++ bs := by rw [run, hm, List.append_assoc]
  rw [hfin]
  have O2 := Lib.hid own2
  have G2 := Lib.hid hG2
  have GG := Lib.hid hgg
  have u1 : bv (UInt8.ofNat (m / 65536)) = .int .u8 ((m : Int) / 65536) := by unfold bv; rw [UInt8.toNat_ofNat']; congr 1; omega
  have u2 : bv (UInt8.ofNat (m / 256)) = .int .u8 ((m : Int) / 256 % 256) := by unfold bv; rw [UInt8.toNat_ofNat']; congr 1
  have u3 : bv (UInt8.ofNat m) = .int .u8 ((m : Int) % 256) := by unfold bv; rw [UInt8.toNat_ofNat']; congr 1
  rw [u1, u2, u3] at run1
  have R1 := Lib.hid run1
  have R2 := Lib.hid run2
  clear b0 r0 own1 hg1 hs1 own2 hg2 hG1 hG2 hgg hg1' hg2' hr hr1 hown hfin run1 run2 u1 u2 u3 e1 e2 e3 hok
  go_enter Tryd.func51, Tryd.ntmps51
  go_wp2_with (first
    | (at_builtin; refine wpList_append_run rfl (.tmp 8) (.tmp 17) _ _ rfl _ _ rfl rfl _ _ R1.out ?_)
    | (at_builtin; go_must (refine wpList_append_run rfl (.tmp 19) (.tmp 20) _ _ rfl _ _ rfl rfl _ _ R2.out ?_)))
  go_ret
  exact ⟨g2, cap2, rfl, O2.out, G2.out, GG.out⟩
end Go.Proofs.YtkbdkeclbokhdaaDoor
