/-
  The guard 'packs', and PackWrites' walk: for every message that reads, in whatever memory: true; nothing old turns.
-/
import Derived.Test.YtngceddlieimmaaPackWrite
import Derived.Test.YtngceddlieimmaaPackRefWrite
import Derived.Lib.SlBytesConst
import Derived.Lib.SmallJoins
namespace Go.Proofs.Ytngceddlieimmaa
open Go Go.RowKit PackMath

/-- The bytes that Write hands back, read. -/
theorem own_rd {w : World} {B g n cap : Nat} {bs : List UInt8} (h : w.ownsRow B 5 1 (.slice (some ⟨g, 0, none⟩) n cap) n (bs.map bv)) (hn : n = bs.length) (hm : bs.length ≤ 140737488351232) : RdB w (fun b => B ≤ b ∧ b < w.heap.size) (.slice (some ⟨g, 0, none⟩) n cap) bs := by
  subst hn
  exact rdB_own h rfl hm
def guardR : Raw := ⟨3, 0, 258, 0, 0, 0, fun _ => 0, [120], [], []⟩
theorem guard_fit : guardR.Fit := ⟨by decide, by decide, by decide, by decide, by decide, by decide, by decide, by decide, by decide⟩
theorem guard_bytes : writeM guardR.m = [3, 2, 0, 0, 2, 1, 2, 7, 0, 0, 1, 120] := by
  have e : parts guardR.m = [[], [1, 2], [], [], [], [], [120], [], []] := by
    have h1 : digits 258 = [1, 2] := by rw [digits_pos (by omega), digits_pos (by omega), digits_zero]; rfl
    have h2 : idPart (id32 fun _ => 0) = [] := by rw [id32_zero, idPart, if_pos rfl]
    show [digits 0, digits 258, digits 0, digits 0, digits 0, idPart (id32 fun _ => 0), [120], _, _] = _
    rw [h1, h2, digits_zero]
    rfl
  rw [writeM, e]
  decide
theorem guard_built (g : Nat) : (Try.prog.built 28 [(0, .int .i64 3), (2, .int .i64 258), (7, .slice (some ⟨g, 0, none⟩) 1 1)]).getD #[] = msgA guardR (.slice (some ⟨g, 0, none⟩) 1 1) (.slice none 0 0) (.slice none 0 0) := by kernel_rfl
set_option maxRecDepth 100000 in
set_option maxHeartbeats 1000000 in
theorem packs_any (w : World) : Calls Try.prog 10 #[] w fun e w' => e = .returned (.bool true) ∧ Below w.heap.size w w' := by
  have hb0 : Below w.heap.size w (w.alloc (.cells #[.int .u8 120] 5 (1, 2))) := (Below.refl _ _).alloc (Nat.le_refl _) _
  have hr : RdR (w.alloc (.cells #[.int .u8 120] 5 (1, 2))) (fun b => b < (w.alloc (.cells #[.int .u8 120] 5 (1, 2))).heap.size) guardR (.slice (some ⟨w.heap.size, 0, none⟩) 1 1) (.slice none 0 0) (.slice none 0 0) := by
    refine ⟨?_, ⟨none, 0, rfl, Nat.zero_le _, fun k hk => absurd hk (by simp [guardR])⟩, ⟨none, 0, rfl, Nat.zero_le _, fun k hk => absurd hk (by simp [guardR])⟩⟩
    exact rdB_cells (n := 1) (fun i hi => by
      obtain rfl : i = 0 := by omega
      rw [World.cell?_alloc_mark]
      rfl) rfl (by omega) (by omega) (by simp)
  have hw := callsIn_wide.1 (write_ok guardR guard_fit _ _ _ _ hr)
  rw [guard_bytes] at hw
  have HW := Lib.hid hw
  have HB := Lib.hid hb0
  have hgb := guard_built w.heap.size
  obtain ⟨M, hM⟩ : ∃ M, msgA guardR (.slice (some ⟨w.heap.size, 0, none⟩) 1 1) (.slice none 0 0) (.slice none 0 0) = M := ⟨_, rfl⟩
  rw [hM] at HW hgb
  have HGB := Lib.hid hgb
  have kc := fun (C : Array Value) (n c : Nat) => Go.Lib.run_convert_bytes_const (P := Try.prog) w 24 5 C n c Try.underlying24 Try.underlying5
  clear hw hb0 hr hM hgb
  go_enter Try.func10, Try.ntmps10
  go_wp2_with (first
    | (refine wpList_build rfl 28 _ rfl (by kernel_rfl) ?_; simp only [List.map_toArray, List.map_cons, List.map_nil])
    | (go_at_call 11; rw [HGB.out]; refine HW.out.mono ?_; rintro e w2 ⟨g, n, cap, rfl, hn, hown, hb2⟩; have hcv := str_rd (own_rd hown hn (by simp)); have HB2 := Lib.hid hb2; clear hown hb2 hn))
  go_ret
  exact ⟨rfl, HB.out.trans (HB2.out.mono (by simp))⟩
set_option maxRecDepth 100000 in
set_option maxHeartbeats 1000000 in
theorem writes_any (r : Raw) (d i l : Value) (w : World) (hr : RdR w (fun b => b < w.heap.size) r d i l) :
    Calls Try.prog 3 #[.agg (msgA r d i l)] w fun e w' => e = .returned (.bool true) ∧ Below w.heap.size w w' := by
  have hb1 : Below w.heap.size w (w.alloc (.cells (msgA r d i l) 28)) := (Below.refl _ _).alloc (Nat.le_refl _) _
  have hx : Blk (w.alloc (.cells (msgA r d i l) 28)) w.heap.size 28 (msgA r d i l) := Blk.new _ _ _
  have hs : (msgA r d i l).size = 41 := arr_size _ _
  have RD : Hid (∀ W, Below w.heap.size w W → RdR W (fun b => b < W.heap.size) r d i l) := Lib.hid fun W hb => (hr.below hb).mono fun b hb' => Nat.lt_of_lt_of_le hb' hb.size
  by_cases hf : r.Fit
  · have W1 := Lib.hid fun W hb => callsIn_wide.1 (write_ok r hf d i l W (RD.out W hb))
    have W2 := Lib.hid fun W hb => refWrite_ok r hf d i l W (RD.out W hb)
    obtain ⟨M, hM⟩ : ∃ M, msgA r d i l = M := ⟨_, rfl⟩
    have hlen : (writeM r.m).length ≤ 140737488351232 := Nat.le_trans (write_len hf.ok) (by omega)
    obtain ⟨bs, hbs⟩ : ∃ bs, writeM r.m = bs := ⟨_, rfl⟩
    rw [hM] at hb1 hx hs W1 W2 ⊢
    rw [hbs] at W1 W2 hlen
    have HL := Lib.hid hlen
    have HB := Lib.hid hb1
    have HS := Lib.hid hs
    clear hb1 hs hM hr hf RD hbs hlen
    go_enter Try.func3, Try.ntmps3
    go_wp2_with (first
      | (go_at_call 10; refine (packs_any _).mono ?_; rintro e w1 ⟨rfl, hb1⟩; have hx1 := hx.below hb1 (by simp); have hw1 := HB.out.trans (hb1.mono (by simp)))
      | (refine wpList_load_row rfl 28 _ rfl w.heap.size rfl 28 M (0, 0) _ hx1 Try.underlying28 rfl (by rw [HS.out]; kernel_rfl) ?_)
      | (go_at_call 11; refine (W1.out w1 hw1).mono ?_; rintro e w2 ⟨g, n, cap, rfl, hn, hown, hb2⟩; have hx2 := hx1.below hb2 hx1.lt; have hw2 := hw1.trans (hb2.mono hw1.size); have hrd := own_rd hown hn HL.out; have HN := Lib.hid hn; clear hown hn)
      | (refine wpList_load_row rfl 28 _ rfl w.heap.size rfl 28 M (0, 0) _ hx2 Try.underlying28 rfl (by rw [HS.out]; kernel_rfl) ?_)
      | (go_at_call 12; refine (W2.out w2 hw2).mono ?_; rintro e w3 ⟨rfl, hb3⟩; have hcv := str_rd (hrd.kept (W' := w3) fun a x ha h => (hb3.cell (p := a) ha.2).trans h); have HW3 := Lib.hid (hw2.trans (hb3.mono hw2.size)); clear hb3 hrd hw2 hx2 hb2))
    go_ret
    exact ⟨rfl, HW3.out⟩
  · have W1 := Lib.hid fun W hb => write_no r hf d i l W (RD.out W hb)
    have W2 := Lib.hid fun W hb => refWrite_no r hf d i l W (RD.out W hb)
    obtain ⟨M, hM⟩ : ∃ M, msgA r d i l = M := ⟨_, rfl⟩
    obtain ⟨k, hk⟩ : ∃ k, r.check = k := ⟨_, rfl⟩
    rw [hM] at hb1 hx hs W1 W2 ⊢
    rw [hk] at W1 W2
    have HB := Lib.hid hb1
    have HS := Lib.hid hs
    clear hb1 hs hM hr hf RD hk
    go_enter Try.func3, Try.ntmps3
    go_wp2_with (first
      | (go_at_call 10; refine (packs_any _).mono ?_; rintro e w1 ⟨rfl, hb1⟩; have hx1 := hx.below hb1 (by simp); have hw1 := HB.out.trans (hb1.mono (by simp)))
      | (refine wpList_load_row rfl 28 _ rfl w.heap.size rfl 28 M (0, 0) _ hx1 Try.underlying28 rfl (by rw [HS.out]; kernel_rfl) ?_)
      | (go_at_call 11; refine (W1.out w1 hw1).mono ?_; rintro e w2 ⟨rfl, hb2⟩; have hx2 := hx1.below hb2 hx1.lt; have hw2 := hw1.trans (hb2.mono hw1.size))
      | (refine wpList_load_row rfl 28 _ rfl w.heap.size rfl 28 M (0, 0) _ hx2 Try.underlying28 rfl (by rw [HS.out]; kernel_rfl) ?_)
      | (go_at_call 12; refine (W2.out w2 hw2).mono ?_; rintro e w3 ⟨rfl, hb3⟩; have hcv := str_rd (A := none) (n := 0) (c := 0) (bs := []) (ok := fun _ => True) (w := w3) ⟨none, 0, rfl, Nat.le_refl _, Nat.zero_le _, fun h => absurd h (by simp)⟩; have HW3 := Lib.hid (hw2.trans (hb3.mono hw2.size)); clear hb3 hw2 hx2 hb2))
    go_ret
    exact ⟨rfl, HW3.out⟩
end Go.Proofs.Ytngceddlieimmaa
