/-
  Audit: Parts as a call; the guard. In whatever memory. No condition.
-/
import Derived.Test.YtalacjmcllfdhaaAudFor
import Derived.Test.YtalacjmcllfdhaaAudPar
import Derived.Lib.SmallJoins
namespace Go.Proofs.Ytalacjmcllfdhaa
open Go Go.RowKit Go.Shelf Go.Maps
attribute [local go_sem] Oper.semAt_some

theorem loadVar_oneA {P : Program} {ty : TypeId} {d : TypeDesc} {a : Addr} {v : Value} {w : World} (hu : P.underlying ty = some d) (hd : (match d with | .struct _ | .array _ _ => true | _ => false) = false) (hc : w.cell? a = some v) :
    (Go.loadVar ty a).run P w = .ok v w := by
  have hagg : (isAgg ty).run P w = .ok false w := by
    unfold isAgg
    rw [Sem.run_bind, run_underlying hu w]
    cases d <;> simp_all
  simp [loadVar, Sem.run_bind, hagg, hc, go_sem]
theorem results_cell1 {P : Program} {fn : Func} {p : Tmp} {ty : TypeId} (h : fn.results = #[.cell p ty]) (tmps : Array Value) (w : World) (a : Addr) (x : Value)
    (hp : tmps.getD p undef = .pointer (some a)) (hx : (Go.loadVar ty a).run P w = .ok x w) : (results fn tmps).run P w = .ok x w := by
  have hp' : tmps[p]?.getD undef = .pointer (some a) := by simpa using hp
  simp [results, h, hp', asAddr, hx]
set_option maxRecDepth 100000 in
set_option maxHeartbeats 4000000 in
theorem parts_any (A : Option Addr) (c : Nat) (L : List (List (List UInt8))) (w : World) (hr : RdPP w (fun b => b < w.heap.size) A L) (hf : FewL L) :
    Calls Try.prog 8 #[.slice A L.length c] w fun e w' => ∃ d g E, e = .returned (.func (.func 15) #[] #[.pointer (some ⟨d, 0, none⟩)]) ∧ PartInv d w.heap.size g E w' ∧ w.heap.size ≤ d ∧ E.length = L.length ∧ (∀ l ∈ E, l.length ≤ 12) ∧ partsL E = partsL L ∧ Below w.heap.size w w' := by
  have HNU := Lib.hid (numbered_any A c L w hr hf)
  obtain ⟨n, hn⟩ : ∃ n, L.length = n := ⟨_, rfl⟩
  have HN := Lib.hid hn
  have HF := Lib.hid hf
  rw [hn] at HNU ⊢
  clear hr hf hn
  go_enter Try.func8, Try.ntmps8
  go_wp2_with (go_at_call 14; refine HNU.out.mono ?_; rintro e W1 ⟨S, E, rfl, hE, hlen, hnum, hb1⟩; have H1 := Lib.hid (And.intro hE (And.intro hlen (And.intro hnum hb1))); clear hE hlen hnum hb1)
  go_ret
  obtain ⟨hE, hlen, hnum, hb1⟩ := H1.out
  have hb2 : Below W1.heap.size W1 (W1.alloc (.cells #[.slice (some ⟨w.heap.size + 1, 0, none⟩) n n] 44)) := (Below.refl _ _).alloc (Nat.le_refl _) _
  obtain ⟨q1, f, q2, q3⟩ := hE
  refine ⟨W1.heap.size, w.heap.size + 1, E, rfl, ⟨?_, q1, f, q2.below hb2 q2.lt, fun j hj => (q3 j hj).kept fun a x _ hx => (hb2.cell (p := a) (World.block_lt_of_cell? _ a hx)).trans hx⟩, hb1.size, hlen, ?_, hnum.parts, hb1.trans (hb2.mono hb1.size)⟩
  · rw [hlen]
    exact Blk.newAt _ _ rfl rfl
  · obtain ⟨_, rfl⟩ := hnum
    intro l hl
    obtain ⟨l0, hl0, rfl⟩ := List.mem_map.1 hl
    rw [List.length_map]
    exact (HF.out.2 l0 hl0).1
/-- Two lists of two entries each. -/
structure FinM (w : World) (B ga gb : Nat) (W : World) : Prop where
  ra : RdP W (fun b => b < B) (some ⟨ga, 0, none⟩) [[120], [121]]
  rb : RdP W (fun b => b < B) (some ⟨gb, 0, none⟩) [[120], [122]]
  kb : Blk W w.heap.size 4 #[.bool false]
  base : w.heap.size < B ∧ B ≤ W.heap.size
  old : Below w.heap.size w W
theorem FinM.below {w W W' : World} {B ga gb : Nat} (h : FinM w B ga gb W) (hb : Below W.heap.size W W') : FinM w B ga gb W' :=
  ⟨h.ra.kept fun a _x ha hx => (hb.cell (p := a) (Nat.lt_of_lt_of_le ha h.base.2)).trans hx, h.rb.kept fun a _x ha hx => (hb.cell (p := a) (Nat.lt_of_lt_of_le ha h.base.2)).trans hx, h.kb.below hb h.kb.lt, ⟨h.base.1, Nat.le_trans h.base.2 hb.size⟩, h.old.trans (hb.mono h.old.size)⟩
theorem rdB_oneA {W : World} {ok : Nat → Prop} {g : Nat} {x : UInt8} (h : W.heap[g]? = some (.cells #[.int .u8 (x.toNat : Int)] 5 (1, 2))) (hok : ok g) : RdB W ok (.slice (some ⟨g, 0, none⟩) 1 1) [x] :=
  ⟨_, 1, rfl, Nat.le_refl _, by simp, fun _ => ⟨_, rfl, hok, fun j hj => by
    have : j = 0 := by simpa using hj
    subst this
    rw [add_zero_block, cell_of_row W g 0 _ _ _ h]
    rfl⟩⟩
theorem rdP_twoA {W : World} {ok : Nat → Prop} {g : Nat} {u v : Value} {x y : List UInt8} (h : Blk W g 43 #[u, v]) (hx : RdB W ok u x) (hy : RdB W ok v y) (hok : ok g) : RdP W ok (some ⟨g, 0, none⟩) [x, y] := fun k hk => by
  match k, hk with
  | 0, _ => exact ⟨_, u, rfl, hok, by rw [add_zero_block, h.cell]; rfl, hx⟩
  | 1, _ => exact ⟨_, v, rfl, hok, by rw [add_zero_block, h.cell]; rfl, hy⟩
theorem rdP_headA {W : World} {ok : Nat → Prop} {A : Option Addr} {x y : List UInt8} (h : RdP W ok A [x, y]) : RdP W ok A [x] := fun k hk => by
  match k, hk with
  | 0, _ => exact h 0 (by simp)
theorem rdPP_threeA {W : World} {ok : Nat → Prop} {g n1 c1 n2 c2 n3 c3 : Nat} {A1 A2 A3 : Option Addr} {x y z : List (List UInt8)} (h : Blk W g 33 #[.slice A1 n1 c1, .slice A2 n2 c2, .slice A3 n3 c3]) (h1 : x.length = n1 ∧ n1 ≤ 100 ∧ RdP W ok A1 x) (h2 : y.length = n2 ∧ n2 ≤ 100 ∧ RdP W ok A2 y) (h3 : z.length = n3 ∧ n3 ≤ 100 ∧ RdP W ok A3 z) (hok : ok g) :
    RdPP W ok (some ⟨g, 0, none⟩) [x, y, z] := fun k hk => by
  obtain ⟨rfl, l1, r1⟩ := h1
  obtain ⟨rfl, l2, r2⟩ := h2
  obtain ⟨rfl, l3, r3⟩ := h3
  match k, hk with
  | 0, _ => exact ⟨_, A1, c1, rfl, hok, by rw [add_zero_block, h.cell]; rfl, by show x.length ≤ _; omega, r1⟩
  | 1, _ => exact ⟨_, A2, c2, rfl, hok, by rw [add_zero_block, h.cell]; rfl, by show y.length ≤ _; omega, r2⟩
  | 2, _ => exact ⟨_, A3, c3, rfl, hok, by rw [add_zero_block, h.cell]; rfl, by show z.length ≤ _; omega, r3⟩
theorem elB : ElC Try.prog 43 33 1 24 := ⟨Try.underlying33, by kernel_rfl, by omega, by omega⟩
theorem old1 {W : World} {o o' : Obj} {g : Nat} (h : W.heap[g]? = some o) : (W.alloc o').heap[g]? = some o := (Below.heap_alloc _ _ _ (Array.getElem?_eq_some_iff.1 h).1).trans h
theorem new1 {W : World} {o : Obj} {g : Nat} (h : W.heap.size = g) : (W.alloc o).heap[g]? = some o := by subst h; exact World.alloc_heap_new W o
theorem fin_mem (w : World) : ∃ W, (((((((w.alloc (.cells #[.bool false] 4)).alloc (.cells #[.int .u8 120] 5 (1, 2))).alloc (.cells #[.int .u8 121] 5 (1, 2))).alloc (.cells #[.slice (some ⟨w.heap.size + 1, 0, none⟩) 1 1, .slice (some ⟨w.heap.size + 1 + 1, 0, none⟩) 1 1] 43)).alloc (.cells #[.int .u8 120] 5 (1, 2))).alloc (.cells #[.int .u8 122] 5 (1, 2))).alloc (.cells #[.slice (some ⟨w.heap.size + 1 + 1 + 1 + 1, 0, none⟩) 1 1, .slice (some ⟨w.heap.size + 1 + 1 + 1 + 1 + 1, 0, none⟩) 1 1] 43)) = W ∧
    FinM w W.heap.size (w.heap.size + 1 + 1 + 1) (w.heap.size + 1 + 1 + 1 + 1 + 1 + 1) W := by
  refine ⟨_, rfl, ?_⟩
  generalize hW : World.alloc _ (.cells #[.slice (some ⟨w.heap.size + 1 + 1 + 1 + 1, 0, none⟩) 1 1, .slice (some ⟨w.heap.size + 1 + 1 + 1 + 1 + 1, 0, none⟩) 1 1] 43) = W
  have hs : W.heap.size = w.heap.size + 7 := by rw [← hW]; simp
  have k0 : Blk W w.heap.size 4 #[.bool false] := by rw [← hW]; exact ((((((Blk.newAt _ _ rfl rfl).alloc _).alloc _).alloc _).alloc _).alloc _).alloc _
  have k1 : W.heap[w.heap.size + 1]? = some (.cells #[.int .u8 120] 5 (1, 2)) := by rw [← hW]; exact old1 (old1 (old1 (old1 (old1 (new1 (by simp))))))
  have k2 : W.heap[w.heap.size + 1 + 1]? = some (.cells #[.int .u8 121] 5 (1, 2)) := by rw [← hW]; exact old1 (old1 (old1 (old1 (new1 (by simp)))))
  have k3 : Blk W (w.heap.size + 1 + 1 + 1) 43 #[.slice (some ⟨w.heap.size + 1, 0, none⟩) 1 1, .slice (some ⟨w.heap.size + 1 + 1, 0, none⟩) 1 1] := by rw [← hW]; exact (((Blk.newAt _ _ (by simp) rfl).alloc _).alloc _).alloc _
  have k4 : W.heap[w.heap.size + 1 + 1 + 1 + 1]? = some (.cells #[.int .u8 120] 5 (1, 2)) := by rw [← hW]; exact old1 (old1 (new1 (by simp)))
  have k5 : W.heap[w.heap.size + 1 + 1 + 1 + 1 + 1]? = some (.cells #[.int .u8 122] 5 (1, 2)) := by rw [← hW]; exact old1 (new1 (by simp))
  have k6 : Blk W (w.heap.size + 1 + 1 + 1 + 1 + 1 + 1) 43 #[.slice (some ⟨w.heap.size + 1 + 1 + 1 + 1, 0, none⟩) 1 1, .slice (some ⟨w.heap.size + 1 + 1 + 1 + 1 + 1, 0, none⟩) 1 1] := by rw [← hW]; exact Blk.newAt _ _ (by simp) rfl
  have hb : Below w.heap.size w W := by rw [← hW]; exact (((((((Below.refl _ _).alloc (Nat.le_refl _) _).alloc (by simp) _).alloc (by simp; omega) _).alloc (by simp; omega) _).alloc (by simp; omega) _).alloc (by simp; omega) _).alloc (by simp; omega) _
  clear hW
  exact ⟨rdP_twoA k3 (rdB_oneA (x := 120) k1 (by omega)) (rdB_oneA (x := 121) k2 (by omega)) (by omega), rdP_twoA k6 (rdB_oneA (x := 120) k4 (by omega)) (rdB_oneA (x := 122) k5 (by omega)) (by omega), k0, ⟨by omega, Nat.le_refl _⟩, hb⟩
def finA : List (List UInt8) := [[120], [121]]
def finB : List (List UInt8) := [[120], [122]]
def finL : List (List (List UInt8)) := [finA, finB, [[120]]]
theorem finL_parts : partsL finL = [(0, 1, 1)] := by decide
theorem finL_few : FewL finL ∧ FewL [[[120]], finB, finA] := ⟨⟨by decide, fun l hl => by unfold okL; revert l; decide⟩, by decide, fun l hl => by unfold okL; revert l; decide⟩
theorem forB_fin : forB finA finB = (1, true) := by decide
end Go.Proofs.Ytalacjmcllfdhaa
