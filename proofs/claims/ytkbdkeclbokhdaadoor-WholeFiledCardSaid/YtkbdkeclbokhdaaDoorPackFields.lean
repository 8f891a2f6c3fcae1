/-
  The iterator over a message's fields: for every message that can be written, in whatever memory, whatever the loop's body does without writing what the iterator reads: the fields that aren't empty come in order, each as its tag and a slice that reads as its bytes; a body may leave.
-/
import Derived.Test.YtkbdkeclbokhdaaDoorPackCheck
import Derived.Test.YtkbdkeclbokhdaaDoorQ35
import Derived.Test.YtkbdkeclbokhdaaDoorQ36
import Derived.Test.YtkbdkeclbokhdaaDoorSeqM
import Derived.Deep.RegionHeld3
import Derived.Shelf.Abstract
import Derived.Shelf.RegionOpen
import Derived.TacticsInMore
import Derived.LoopNIn
import Derived.LoopIn
import Derived.Deep.RegionWith
namespace Go.Proofs.YtkbdkeclbokhdaaDoor
open Go Go.RowKit PackMath
set_option linter.unusedSimpArgs false

/-- A field's bytes, in new memory. -/
def NewRun (bs : List UInt8) (w : World) (e : Ending) (w' : World) : Prop := ∃ A n c, e = .returned (.slice A n c) ∧ n = bs.length ∧ RdB w' (fun b => w.heap.size ≤ b ∧ b < w'.heap.size) (.slice A n c) bs ∧ Below w.heap.size w w'
theorem new_num (n : Int) (h : 0 ≤ n ∧ n ≤ 1099511627776) (w : World) : Calls Tryd.prog 63 #[.int .i64 n] w (NewRun (digits n.toNat) w) := by
  obtain ⟨k, rfl⟩ := Int.eq_ofNat_of_zero_le h.1
  refine (number_run k (by omega) w).mono ?_
  rintro e w' ⟨A, rfl, hr, hb⟩
  exact ⟨A, _, _, rfl, rfl, hr, hb⟩
theorem new_id (f : Nat → UInt8) (w : World) : Calls Tryd.prog 64 #[.agg (arr 32 fun i => bv (f i))] w (NewRun (idPart (id32 f)) w) := by
  refine (writeID_any f w).mono ?_
  rintro e w' ⟨A, n, c, rfl, hn, hr, hb⟩
  exact ⟨A, n, c, rfl, hn, hr, hb⟩
theorem new_own {w w' : World} {v : Value} {bs : List UInt8} (h : w'.ownsRow w.heap.size 5 1 v bs.length (bs.map bv)) (hl : bs.length ≤ 140737488351232) (hb : Below w.heap.size w w') : NewRun bs w (.returned v) w' := by
  have hr := rdB_own h rfl hl
  rcases ownsRow_forms' h with ⟨rfl, h0⟩ | ⟨g, cap, rfl⟩
  · exact ⟨none, 0, 0, rfl, h0.symm, hr, hb⟩
  · exact ⟨_, _, _, rfl, rfl, hr, hb⟩
theorem new_ids (A : Option Addr) (n c : Nat) (ps : List (Nat → UInt8)) (hn : ps.length = n) (hn2 : n ≤ 64) (w : World) (hr : RdI w (fun b => b < w.heap.size) A ps) : Calls Tryd.prog 65 #[.slice A n c] w (NewRun (ps.map id32).flatten w) := by
  refine (writeIDs_any A n c ps hn (by omega) w hr).mono ?_
  rintro e w' ⟨v, rfl, hown, hb⟩
  exact new_own hown (by rw [ids_len]; omega) hb
theorem new_list (A : Option Addr) (n c : Nat) (ps : List (List UInt8)) (hn : ps.length = n) (hn2 : n ≤ 64) (hs : (ps.map List.length).sum ≤ 131072) (w : World) (hr : RdP w (fun b => b < w.heap.size) A ps) : Calls Tryd.prog 66 #[.slice A n c] w (NewRun (ps.map run).flatten w) := by
  refine (writeList_any A n c ps hn (by omega) (by omega) w hr).mono ?_
  rintro e w' ⟨v, rfl, hown, hb⟩
  exact new_own hown (by rw [runs_length]; omega) hb

/-- What has been made since W0: slices that read, nothing old turned. -/
structure Got (W0 : World) (l : List (Value × List UInt8)) (W : World) : Prop where
  below : Below W0.heap.size W0 W
  each : ∀ p ∈ l, RdB W (fun b => W0.heap.size ≤ b ∧ b < W.heap.size) p.1 p.2
/-- The same, with a variable. -/
structure GotV (W0 : World) (g t : Nat) (cs : Array Value) (l : List (Value × List UInt8)) (W : World) : Prop where
  below : Below W0.heap.size W0 W
  each : ∀ p ∈ l, RdB W (fun b => W0.heap.size ≤ b ∧ b < W.heap.size ∧ b ≠ g) p.1 p.2
  blk : Blk W g t cs
  row : W0.heap.size ≤ g
theorem Got.start (W : World) : Got W [] W := ⟨Below.refl _ _, fun p hp => by cases hp⟩
theorem Got.drew {W0 W : World} {l : List (Value × List UInt8)} (h : Got W0 l W) : Got W0 l W.drew := ⟨h.below.drew, h.each⟩
theorem Got.step {W0 W W' : World} {l : List (Value × List UInt8)} (h : Got W0 l W) {v : Value} {bs : List UInt8} (hr : RdB W' (fun b => W.heap.size ≤ b ∧ b < W'.heap.size) v bs) (hb : Below W.heap.size W W') : Got W0 ((v, bs) :: l) W' := by
  have h1 := h.below.size
  have h2 := hb.size
  refine ⟨h.below.trans (hb.mono h1), fun p hp => ?_⟩
  rcases List.mem_cons.1 hp with rfl | hp
  · exact hr.mono fun b hb => ⟨by omega, hb.2⟩
  · exact ((h.each p hp).kept fun a x ha hx => (hb.cell (p := a) ha.2).trans hx).mono fun b hb => ⟨hb.1, by omega⟩
theorem Got.var {W0 W : World} {l : List (Value × List UInt8)} (h : Got W0 l W) (t : Nat) (cs : Array Value) : GotV W0 W.heap.size t cs l (W.alloc (.cells cs t)) := by
  have h1 := h.below.size
  exact ⟨h.below.alloc h1 _, fun p hp => ((h.each p hp).kept fun a x ha hx => (World.cell?_alloc_lt W _ _ ha.2).trans hx).mono fun b hb => ⟨hb.1, by simp; omega, by omega⟩, Blk.new _ _ _, h1⟩
theorem GotV.step {W0 W W' : World} {g t : Nat} {cs : Array Value} {l : List (Value × List UInt8)} (h : GotV W0 g t cs l W) {v : Value} {bs : List UInt8} (hr : RdB W' (fun b => W.heap.size ≤ b ∧ b < W'.heap.size) v bs) (hb : Below W.heap.size W W') : GotV W0 g t cs ((v, bs) :: l) W' := by
  have h1 := h.below.size
  have h2 := hb.size
  have h3 := h.blk.lt
  refine ⟨h.below.trans (hb.mono h1), fun p hp => ?_, h.blk.below hb h3, h.row⟩
  rcases List.mem_cons.1 hp with rfl | hp
  · exact hr.mono fun b hb => ⟨by omega, hb.2, by omega⟩
  · exact ((h.each p hp).kept fun a x ha hx => (hb.cell (p := a) ha.2.1).trans hx).mono fun b hb => ⟨hb.1, by omega, hb.2.2⟩
theorem GotV.store {W0 W : World} {g t : Nat} {cs : Array Value} {l : List (Value × List UInt8)} (h : GotV W0 g t cs l W) (cs' : Array Value) : GotV W0 g t cs' l (W.setRow g cs') :=
  ⟨below_setRow h.below h.row cs', fun p hp => ((h.each p hp).kept fun a x ha hx => (World.cell?_of_block (setRow_other W g a.block cs' ha.2.2)).trans hx).mono fun b hb => ⟨hb.1, by rw [size_setRow]; exact hb.2.1, hb.2.2⟩, h.blk.setRow cs', h.row⟩

def w_all (w' : World) (g : Nat) (cid : List Value) (r : Raw) (Ad : Option Addr) (nd cd : Nat) (Ai : Option Addr) (ni ci : Nat) (Al : Option Addr) (nl cl : Nat) : Prop :=
  w'.rangeAt g 6 cid ∧ w'.cell? ⟨g, 1, none⟩ = some (.int .i64 r.who) ∧ w'.cell? ⟨g, 2, none⟩ = some (.int .i64 r.height) ∧ w'.cell? ⟨g, 3, none⟩ = some (.int .i64 r.round) ∧ w'.cell? ⟨g, 4, none⟩ = some (.int .i64 r.valid) ∧ w'.cell? ⟨g, 5, none⟩ = some (.int .i64 r.num) ∧ w'.cell? ⟨g, 38, none⟩ = some (.slice Ad nd cd) ∧ w'.cell? ⟨g, 39, none⟩ = some (.slice Ai ni ci) ∧ w'.cell? ⟨g, 40, none⟩ = some (.slice Al nl cl)
/-- The fields that aren't empty, from a tag on. -/
def fld : Nat → List (List UInt8) → List (Nat × List UInt8)
  | _, [] => []
  | k, p :: ps => (if p = [] then [] else [(k, p)]) ++ fld (k + 1) ps
theorem body_fld (k : Nat) (ps : List (List UInt8)) : body k ps = (fld k ps).flatMap fun x => UInt8.ofNat x.1 :: run x.2 := by
  induction ps generalizing k with
  | nil => rfl
  | cons p ps ih =>
    rw [body, fld, List.flatMap_append, ih]
    by_cases h : p = []
    · rw [if_pos h, if_pos h]; rfl
    · rw [if_neg h, if_neg h]; simp
theorem fld_append (k : Nat) (ps qs : List (List UInt8)) : fld k (ps ++ qs) = fld k ps ++ fld (k + ps.length) qs := by
  induction ps generalizing k with
  | nil => rfl
  | cons p ps ih => rw [List.cons_append, fld, fld, ih, List.append_assoc, List.length_cons]; congr 2; congr 1; omega
theorem fld_snoc (ps : List (List UInt8)) (k : Nat) (h : k < ps.length) : fld 0 (ps.take (k + 1)) = fld 0 (ps.take k) ++ if ps.getD k [] = [] then [] else [(k, ps.getD k [])] := by
  rw [List.take_succ_eq_append_getElem h, fld_append, List.length_take, Nat.min_eq_left (by omega), List.getD_eq_getElem?_getD, List.getElem?_eq_getElem h]
  simp [fld]
theorem fld_prefix (ps : List (List UInt8)) (k : Nat) : fld 0 (ps.take k) <+: fld 0 ps := by
  have := List.take_append_drop k ps
  conv => rhs; rw [← this]
  rw [fld_append]
  exact List.prefix_append _ _
def EncF (x : Nat × List UInt8) (o : Nat → Prop) (W : World) (vs : Array Value) : Prop := ∃ v, vs = #[.int .i64 (x.1 : Int), v] ∧ RdB W (fun b => b < W.heap.size ∧ ¬ o b) v x.2

theorem lit49 (f : Nat → Value) : arr 49 f = #[f 0, f 1, f 2, f 3, f 4, f 5, f 6, f 7, f 8, f 9, f 10, f 11, f 12, f 13, f 14, f 15, f 16, f 17, f 18, f 19, f 20, f 21, f 22, f 23, f 24, f 25, f 26, f 27, f 28, f 29, f 30, f 31, f 32, f 33, f 34, f 35, f 36, f 37, f 38, f 39, f 40, f 41, f 42, f 43, f 44, f 45, f 46, f 47, f 48] := by
  rw [arr_list, show List.range 49 = [0, 1, 2, 3, 4, 5, 6, 7, 8, 9, 10, 11, 12, 13, 14, 15, 16, 17, 18, 19, 20, 21, 22, 23, 24, 25, 26, 27, 28, 29, 30, 31, 32, 33, 34, 35, 36, 37, 38, 39, 40, 41, 42, 43, 44, 45, 46, 47, 48] from by kernel_rfl]
  rfl
theorem run_index_slices {P : Program} (t e q : TypeId) (n : Nat) (cs : Array Value) (hs : cs.size = n) (k : Nat) (hk : k < n) (v : Value) (hv : cs.getD k undef = v) (ht : P.underlying t = some (.array n e)) (he : P.underlying e = some (.slice q)) (h1 : (P.info? e).map (·.size) = some 1) (w : World) :
    (Instr.index t (.agg cs) (.int .i64 (k : Int))).run P w = .ok v w := by
  have hk2 : (k : Int) < n := by omega
  have hsz : (sizeOf e).run P w = .ok 1 w := size_one h1 w
  have hg : cs[k]? = some v := by rw [← hv, Array.getD_eq_getD_getElem?, Array.getElem?_eq_getElem (by omega)]; rfl
  simp [Instr.index, asIntOf, run_underlying ht, Sem.run_bind, hk2, hsz, Go.part, isAgg, run_underlying he, hg]
  all_goals first | omega | (intro hx; omega)
/-- The slices in the iterator's variable read as the fields; none of them lies where the body may write. -/
def Runs (wr : World) (o : Nat → Prop) (fv : Nat → Value) (ps : List (List UInt8)) : Prop := ∀ k, k < 10 → RdB wr (fun b => b < wr.heap.size ∧ ¬ o b) (fv k) (ps.getD k [])
theorem Runs.step {wr W' : World} {o o' : Nat → Prop} {fv : Nat → Value} {ps : List (List UInt8)} (h : Runs wr o fv ps) (hk : Keep o wr W') (hg : Goes o o' wr) : Runs W' o' fv ps := fun k hlt =>
  ((h k hlt).kept fun a x ha hx => cell_keep hk ha.2 hx).mono fun b hb => ⟨Nat.lt_of_lt_of_le hb.1 hk.size, fun ho => (hg b ho).elim hb.2 fun h => by omega⟩

set_option maxRecDepth 100000 in
set_option maxHeartbeats 4000000 in
theorem fields_seq (g D : Nat) (r : Raw) (hf : r.Fit) (d i l : Value) (w : World) (hD : D ≤ w.heap.size) (hr : RdR w (fun b => b < D) r d i l) (hbx : Blk w g 69 (msgA r d i l)) :
    SeqM Tryd.prog 62 #[.pointer (some ⟨g, 0, none⟩)] EncF D (fld 1 (parts r.m)) w := by
  intro y J Jx o W hW hJ hJx hY h0 hoD
  have hxg := hbx.lt
  replace hr := hr.kept (W' := W) fun a x ha h => (hW.cell (p := a) (Nat.lt_of_lt_of_le ha hD)).trans h
  replace hbx := hbx.below hW hxg
  have hxW : g < W.heap.size := Nat.lt_of_lt_of_le hxg hW.size
  replace hD : D ≤ W.heap.size := Nat.le_trans hD hW.size
  clear hW hxg
  have HJ := Lib.hid hJ
  have HJx := Lib.hid hJx
  have HY := Lib.hid hY
  have H0 := Lib.hid h0
  have HO := Lib.hid hoD
  have HR := Lib.hid hr
  have HF := Lib.hid hf
  have HBX := Lib.hid hbx
  clear hJ hJx hY h0 hoD hr hf hbx
  refine callsIn_of_wp Tryd.func62 rfl trivial ?_ rfl
  simp only [Tryd.ntmps62, List.size_toArray, List.length_cons, List.length_nil, Nat.reduceAdd, Nat.reduceSub, Array.replicate_succ, Array.replicate_zero, List.push_toArray, List.append_toArray, List.nil_append, List.cons_append]
  gi_wp2
  refine wpIn_wide.2 ?_
  rename_i Q' K hK0
  obtain ⟨hd, ⟨Ai, ci, rfl, hni, hri⟩, ⟨Al, cl, rfl, hnl, hrl⟩⟩ := HR.out
  obtain ⟨Ad, cd, rfl, hcd, hnd, _⟩ := id hd
  have hrd : RdB W (fun b => b < D) (.slice Ad r.data.length cd) r.data := hd
  have HRD := Lib.hid hrd
  clear hd hrd
  obtain ⟨nd, hndd⟩ : ∃ nd, r.data.length = nd := ⟨_, rfl⟩
  obtain ⟨ni, hnid⟩ : ∃ ni, r.ids.length = ni := ⟨_, rfl⟩
  obtain ⟨nl, hnld⟩ : ∃ nl, r.list.length = nl := ⟨_, rfl⟩
  have hcells := msg_cells HBX.out
  have hid : W.rangeAt g 6 ((id32 r.id).map Extern.Stop.cell) := fun j v hv => by
    have hj : j < 32 := by
      rcases Nat.lt_or_ge j 32 with h' | h'
      · exact h'
      · rw [List.getElem?_eq_none (by simp [id32]; exact h')] at hv; cases hv
    rw [HBX.out.cell, msgA, arr_get, if_pos (by omega), ← hv]
    have e : msgF r (.slice Ad r.data.length cd) (.slice Ai r.ids.length ci) (.slice Al r.list.length cl) (6 + j) = bv (r.id j) := by
      have : (6 + j) = j + 6 := by omega
      rw [this]
      show (if j + 6 < 38 then bv (r.id (j + 6 - 6)) else _) = _
      rw [if_pos (by omega), Nat.add_sub_cancel]
    rw [e]
    simp [id32, hj]
    rfl
  have hf := HF.out
  have hps : parts r.m = [digits r.who.toNat, digits r.height.toNat, digits r.round.toNat, digits r.valid.toNat, digits r.num.toNat, idPart (id32 r.id), r.data, (r.ids.map id32).flatten, (r.list.map run).flatten] := rfl
  have N1 : Hid (∀ W', Below W.heap.size W W' → Calls Tryd.prog 63 #[.int .i64 r.who] W' (NewRun (digits r.who.toNat) W')) := Lib.hid fun W' _ => new_num _ hf.who W'
  have N2 : Hid (∀ W', Below W.heap.size W W' → Calls Tryd.prog 63 #[.int .i64 r.height] W' (NewRun (digits r.height.toNat) W')) := Lib.hid fun W' _ => new_num _ hf.height W'
  have N3 : Hid (∀ W', Below W.heap.size W W' → Calls Tryd.prog 63 #[.int .i64 r.round] W' (NewRun (digits r.round.toNat) W')) := Lib.hid fun W' _ => new_num _ hf.round W'
  have N4 : Hid (∀ W', Below W.heap.size W W' → Calls Tryd.prog 63 #[.int .i64 r.valid] W' (NewRun (digits r.valid.toNat) W')) := Lib.hid fun W' _ => new_num _ hf.valid W'
  have N5 : Hid (∀ W', Below W.heap.size W W' → Calls Tryd.prog 63 #[.int .i64 r.num] W' (NewRun (digits r.num.toNat) W')) := Lib.hid fun W' _ => new_num _ hf.num W'
  have NI : Hid (∀ W', Below W.heap.size W W' → Calls Tryd.prog 64 #[.agg ((id32 r.id).map Extern.Stop.cell).toArray] W' (NewRun (idPart (id32 r.id)) W')) := Lib.hid fun W' _ => by rw [← arr_id32]; exact new_id r.id W'
  have NS : Hid (∀ W', Below W.heap.size W W' → Calls Tryd.prog 65 #[.slice Ai ni ci] W' (NewRun (r.ids.map id32).flatten W')) := Lib.hid fun W' hb =>
    new_ids Ai ni ci r.ids hnid (by rw [← hnid]; exact hf.ids) W' ((hri.kept fun a x ha h => (hb.cell (p := a) (Nat.lt_of_lt_of_le ha hD)).trans h).mono fun b hb' => Nat.lt_of_lt_of_le (Nat.lt_of_lt_of_le hb' hD) hb.size)
  have NL : Hid (∀ W', Below W.heap.size W W' → Calls Tryd.prog 66 #[.slice Al nl cl] W' (NewRun (r.list.map run).flatten W')) := Lib.hid fun W' hb =>
    new_list Al nl cl r.list hnld (by rw [← hnld]; exact hf.list) (by have := hf.size; omega) W' ((hrl.kept fun a x ha h => (hb.cell (p := a) (Nat.lt_of_lt_of_le ha hD)).trans h).mono fun b hb' => Nat.lt_of_lt_of_le (Nat.lt_of_lt_of_le hb' hD) hb.size)
  obtain ⟨cid, hcid⟩ : ∃ cid, (id32 r.id).map Extern.Stop.cell = cid := ⟨_, rfl⟩
  have hcl : cid.length = 32 := by rw [← hcid]; simp [id32]
  rw [hcid] at hid NI
  rw [hndd] at hcells
  rw [hnid] at hcells
  rw [hnld] at hcells
  have ALL : Hid (∀ W', Below W.heap.size W W' → w_all W' g cid r Ad nd cd Ai ni ci Al nl cl) := Lib.hid fun W' hb => by
    obtain ⟨_, c1, c2, c3, c4, c5, c38, c39, c40⟩ := hcells
    exact ⟨fun j v hv => (hb.cell (p := ⟨g, 6 + j, none⟩) hxW).trans (hid j v hv), (hb.cell (p := ⟨g, 1, none⟩) hxW).trans c1, (hb.cell (p := ⟨g, 2, none⟩) hxW).trans c2, (hb.cell (p := ⟨g, 3, none⟩) hxW).trans c3, (hb.cell (p := ⟨g, 4, none⟩) hxW).trans c4, (hb.cell (p := ⟨g, 5, none⟩) hxW).trans c5, (hb.cell (p := ⟨g, 38, none⟩) hxW).trans c38, (hb.cell (p := ⟨g, 39, none⟩) hxW).trans c39, (hb.cell (p := ⟨g, 40, none⟩) hxW).trans c40⟩
  have HID : Hid ((Tryd.prog.info? 37).map (·.size) = some cid.length) := Lib.hid (by rw [hcl]; kernel_rfl)
  have hu := Tryd.underlying37
  have HND := Lib.hid hndd
  have HPS := Lib.hid hps
  have HK : Hid (∀ (a' : Act) (W1 : World) {gv : Nat} {A0 A1 A2 A3 A4 A5 A6 A7 : Option Addr} {n0 n1 n2 n3 n4 n5 n6 n7 c0 c1 c2 c3 c4 c5 c6 c7 : Nat}, a'.defers = [] → a'.tmps.size = 49 → (a'.tmps.getD 0 undef = .func (.yield y) #[] #[] ∧ a'.tmps.getD 3 undef = .pointer (some ⟨gv, 0, none⟩)) →
      GotV W gv 117 #[.slice none 0 0, .slice A0 n0 c0, .slice A1 n1 c1, .slice A2 n2 c2, .slice A3 n3 c3, .slice A4 n4 c4, .slice A5 n5 c5, .slice Ad nd cd, .slice A6 n6 c6, .slice A7 n7 c7] [(.slice A7 n7 c7, (r.list.map run).flatten), (.slice A6 n6 c6, (r.ids.map id32).flatten), (.slice A5 n5 c5, idPart (id32 r.id)), (.slice A4 n4 c4, digits r.num.toNat), (.slice A3 n3 c3, digits r.valid.toNat), (.slice A2 n2 c2, digits r.round.toNat), (.slice A1 n1 c1, digits r.height.toNat), (.slice A0 n0 c0, digits r.who.toNat)] W1 → K a' W1) := Lib.hid (by
    intro a' W1 gv A0 A1 A2 A3 A4 A5 A6 A7 n0 n1 n2 n3 n4 n5 n6 n7 c0 c1 c2 c3 c4 c5 c6 c7 hdf hsz hfr hgot
    refine hK0 _ _ ?_
    clear hK0
    obtain ⟨tmps, dfs⟩ := a'
    obtain rfl : dfs = [] := hdf
    obtain ⟨f, rfl⟩ : ∃ f, tmps = arr 49 f := ⟨_, arr_getD tmps hsz⟩
    have f0 : f 0 = .func (.yield y) #[] #[] := by simpa [Array.getD_eq_getD_getElem?, arr_get] using hfr.1
    have f3 : f 3 = .pointer (some ⟨gv, 0, none⟩) := by simpa [Array.getD_eq_getD_getElem?, arr_get] using hfr.2
    rw [lit49, f0, f3]
    clear hsz hfr f0 f3
    obtain ⟨cs, hcs⟩ : ∃ cs : Array Value, cs = #[.slice none 0 0, .slice A0 n0 c0, .slice A1 n1 c1, .slice A2 n2 c2, .slice A3 n3 c3, .slice A4 n4 c4, .slice A5 n5 c5, .slice Ad nd cd, .slice A6 n6 c6, .slice A7 n7 c7] := ⟨_, rfl⟩
    obtain ⟨ps, hpsd⟩ : ∃ ps, ps = [] :: parts r.m := ⟨_, rfl⟩
    have hpl : ps.length = 10 := by rw [hpsd]; rfl
    have hlt : ∀ b, o b → b < W.heap.size := fun b hb => HJ.out.lt H0.out hb
    have hruns : Runs W1 o (fun k => cs.getD k undef) ps := fun k hk => by
      have mk : ∀ {v : Value} {bs : List UInt8}, (v, bs) ∈ [(Value.slice A7 n7 c7, (r.list.map run).flatten), (.slice A6 n6 c6, (r.ids.map id32).flatten), (.slice A5 n5 c5, idPart (id32 r.id)), (.slice A4 n4 c4, digits r.num.toNat), (.slice A3 n3 c3, digits r.valid.toNat), (.slice A2 n2 c2, digits r.round.toNat), (.slice A1 n1 c1, digits r.height.toNat), (.slice A0 n0 c0, digits r.who.toNat)] → RdB W1 (fun b => b < W1.heap.size ∧ ¬ o b) v bs := fun hm =>
        (hgot.each _ hm).mono fun b hb => ⟨hb.2.1, fun ho => by have := hlt b ho; omega⟩
      have hd1 : RdB W1 (fun b => b < W1.heap.size ∧ ¬ o b) (.slice Ad nd cd) r.data := by
        rw [← HND.out]
        exact (HRD.out.kept fun a x ha h => (hgot.below.cell (p := a) (Nat.lt_of_lt_of_le ha hD)).trans h).mono fun b hb => ⟨Nat.lt_of_lt_of_le (Nat.lt_of_lt_of_le hb hD) hgot.below.size, fun ho => by have := HO.out b ho; omega⟩
      rw [hcs, hpsd, HPS.out]
      have : k = 0 ∨ k = 1 ∨ k = 2 ∨ k = 3 ∨ k = 4 ∨ k = 5 ∨ k = 6 ∨ k = 7 ∨ k = 8 ∨ k = 9 := by omega
      rcases this with rfl | rfl | rfl | rfl | rfl | rfl | rfl | rfl | rfl | rfl
      · exact ⟨none, 0, rfl, Nat.le_refl _, Nat.zero_le _, fun h => absurd h (by simp)⟩
      · exact mk (by simp)
      · exact mk (by simp)
      · exact mk (by simp)
      · exact mk (by simp)
      · exact mk (by simp)
      · exact mk (by simp)
      · exact hd1
      · exact mk (by simp)
      · exact mk (by simp)
    have hJ1 : J [] o W1 := HJ.out.stay _ _ _ _ H0.out (.of_below hgot.below)
    have hsz1 := hgot.below.size
    have hbv := hgot.blk
    rw [← hcs] at hbv
    have hcz : cs.size = 10 := by rw [hcs]; rfl
    have hfin : fld 1 (parts r.m) = fld 0 ps := by rw [hpsd]; rfl
    have HY2 : Hid (∀ pre x vs o W1, (pre ++ [x]) <+: fld 0 ps → J pre o W1 → W.heap.size ≤ W1.heap.size → EncF x o W1 vs → YieldAt Fence.wide 0 Tryd.prog y vs W1 fun e W' =>
      (e = .returned (.bool true) ∧ (∃ o', J (pre ++ [x]) o' W' ∧ Goes o o' W1) ∧ Keep o W1 W') ∨ (e = .returned (.bool false) ∧ ∃ o', Jx (pre ++ [x]) o' W')) := Lib.hid (by rw [← hfin]; exact HY.out)
    have HFIN := Lib.hid hfin
    have HPL := Lib.hid hpl
    have HRU := Lib.hid hruns
    have HCZ := Lib.hid hcz
    have HJ1 := Lib.hid hJ1
    clear hcs hgot hlt hfin hpsd hpl hruns hcz hJ1 hps hri hrl hni hnl hid hcells hcid hf hD hnd hndd hnid hnld hcd hxW
    gi_wp2_with (refine wpListIn_load_arr (fun _ => trivial) rfl 117 _ rfl gv rfl 117 cs _ hbv Tryd.underlying117 rfl (by rw [HCZ.out]; kernel_rfl) ?_)
    clear hbv
    gi_loopw [34] (fun i wr => ∃ k : Nat, k ≤ 10 ∧ i = .int .i64 (k : Int) ∧ ∃ o', J (fld 0 (ps.take k)) o' wr ∧ Runs wr o' (fun k => cs.getD k undef) ps ∧ W.heap.size ≤ wr.heap.size) (fun i _ => 10 - (intOf i).toNat)
    case atStart => exact ⟨0, by omega, rfl, o, HJ1.out, HRU.out, hsz1⟩
    case round =>
      obtain ⟨k, hk, rfl, o', hJk, hRk, hsk⟩ := hrel
      clear hsz1
      by_cases hlt : k < 10
      · have hr1 := hRk k hlt
        have hkl : (k : Int) < 10 := by omega
        obtain ⟨A, c, hv, h1, h2, h3⟩ := id hr1
        have hix := fun w' => run_index_slices (P := Tryd.prog) 117 42 5 10 cs HCZ.out k hlt _ hv Tryd.underlying117 Tryd.underlying42 (by kernel_rfl) w'
        have hsn := fld_snoc ps k (by rw [HPL.out]; exact hlt)
        have hpx := fld_prefix ps (k + 1)
        have hrr : RdB wr (fun b => b < wr.heap.size ∧ ¬ o' b) (.slice A (ps.getD k []).length c) (ps.getD k []) := by
          have : (fun k => cs.getD k undef) k = cs.getD k undef := rfl
          rw [← hv]; exact hr1
        obtain ⟨p, hp⟩ : ∃ p, ps.getD k [] = p := ⟨_, rfl⟩
        rw [hp] at hsn hix hrr
        obtain ⟨np, hnp⟩ : ∃ np, p.length = np := ⟨_, rfl⟩
        rw [hnp] at hix hrr
        have HJK := Lib.hid hJk
        have HRK := Lib.hid hRk
        have HRR := Lib.hid hrr
        clear hr1 hv h1 h2 h3 hp hrr hJk hRk
        by_cases h0 : p = []
        · obtain rfl : np = 0 := by rw [← hnp, h0]; rfl
          rw [if_pos h0, List.append_nil] at hsn
          have HSN := Lib.hid hsn
          clear hsn hpx hnp h0
          gi_wp2
          refine ⟨(fun f h => by cases h), ?_⟩
          gi_wp2
          exact ⟨⟨k + 1, by omega, by go_num, o', by rw [HSN.out]; exact HJK.out, HRK.out, hsk⟩, by simp [intOf]; omega⟩
        · have hnp0 : 0 < np := by rw [← hnp]; exact List.length_pos_iff.2 h0
          rw [if_neg h0] at hsn
          rw [hsn] at hpx
          have HSN := Lib.hid hsn
          have HPX := Lib.hid hpx
          have hd0 : (0 : Int) < (np : Int) := by omega
          clear hsn hpx hnp h0
          obtain ⟨fn, tm, assign, bd, hy, hR1⟩ := HY2.out _ (k, p) #[.int .i64 (k : Int), .slice A np c] o' wr HPX.out HJK.out hsk ⟨_, rfl, HRR.out⟩
          gi_wp2_with (refine ⟨rfl, ?_⟩; refine hR1.mono ?_; clear hR1; rintro e W' (⟨rfl, ⟨o2, hJ2, hgo⟩, hk2⟩ | ⟨rfl, o2, hJx2⟩))
          · have hs2 := hk2.size
            exact ⟨⟨k + 1, by omega, by go_num, o2, by rw [HSN.out]; exact hJ2, HRK.out.step hk2 hgo, by omega⟩, by simp [intOf]; omega⟩
          · refine bodyPost_ret (results_none rfl _ _ _) rfl ?_
            exact ⟨⟨_, rfl⟩, .inr ⟨_, o2, by rw [HFIN.out]; exact HPX.out, by simp, hJx2⟩⟩
      · obtain rfl : k = 10 := by omega
        have e : ps.take 10 = ps := by rw [← HPL.out]; simp
        rw [e] at hJk
        have HJK := Lib.hid hJk
        clear hJk e hRk
        gi_wp2
        go_end0
        exact ⟨⟨_, rfl⟩, .inl ⟨o', by rw [HFIN.out]; exact HJK.out⟩⟩)
  clear hK0 hcells hid hri hrl hni hnl hps hf hndd hnid hnld hcid hcl hcd hnd HR HBX HF HJ HJx HY H0 HO HRD HND HPS hD hxW
  have q : Got W [] W.drew := (Got.start W).drew
  refine wp_region_held_drew (S := fun w' => w'.rangeAt g 6 cid ∧ w'.cell? ⟨g, 1, none⟩ = some (.int .i64 r.who) ∧ w'.cell? ⟨g, 2, none⟩ = some (.int .i64 r.height) ∧ w'.cell? ⟨g, 3, none⟩ = some (.int .i64 r.round) ∧ w'.cell? ⟨g, 4, none⟩ = some (.int .i64 r.valid) ∧ w'.cell? ⟨g, 5, none⟩ = some (.int .i64 r.num) ∧ w'.cell? ⟨g, 38, none⟩ = some (.slice Ad nd cd) ∧ w'.cell? ⟨g, 39, none⟩ = some (.slice Ai ni ci) ∧ w'.cell? ⟨g, 40, none⟩ = some (.slice Al nl cl)) (by kernel_rfl) ?_ (fun hHeld => ?_)
  · exact ALL.out _ q.below
  refine wpAnyH_take (i := 0) (oi := ⟨some 6, _, _, _, _, _⟩) (v := ?_) rfl (by kernel_rfl) (by kernel_rfl) (by kernel_rfl) (fun _ _ _ h => h) (Or.inl ⟨by rfl, ?_⟩) (by assumption) ?_
  rotate_left
  · intro w hSw; (try dsimp only at hSw); go_simp; try (with_reducible rfl)
  rotate_left 0
  try simp only [Act.put, List.setIfInBounds_toArray, List.set_cons_zero, List.set_cons_succ]
  refine wpAnyH_take (i := 1) (oi := ⟨some 7, _, _, _, _, _⟩) (v := ?_) rfl (by kernel_rfl) (by kernel_rfl) (by kernel_rfl) (fun _ _ _ h => h) (Or.inl ⟨by rfl, ?_⟩) (by assumption) ?_
  rotate_left
  · intro w hSw; (try dsimp only at hSw); go_simp; try (with_reducible rfl)
  rotate_left 0
  try simp only [Act.put, List.setIfInBounds_toArray, List.set_cons_zero, List.set_cons_succ]
  refine wpAnyH_take (i := 3) (oi := ⟨some 9, _, _, _, _, _⟩) (v := ?_) rfl (by kernel_rfl) (by kernel_rfl) (by kernel_rfl) (fun _ _ _ h => h) (Or.inl ⟨by rfl, ?_⟩) (by assumption) ?_
  rotate_left
  · intro w hSw; (try dsimp only at hSw); go_simp; try (with_reducible rfl)
  rotate_left 0
  try simp only [Act.put, List.setIfInBounds_toArray, List.set_cons_zero, List.set_cons_succ]
  refine wpAnyH_take (i := 4) (oi := ⟨some 10, _, _, _, _, _⟩) (v := ?_) rfl (by kernel_rfl) (by kernel_rfl) (by kernel_rfl) (fun _ _ _ h => h) (Or.inl ⟨by rfl, ?_⟩) (by assumption) ?_
  rotate_left
  · intro w hSw; (try dsimp only at hSw); go_simp; try (with_reducible rfl)
  rotate_left 0
  try simp only [Act.put, List.setIfInBounds_toArray, List.set_cons_zero, List.set_cons_succ]
  refine wpAnyH_take (i := 6) (oi := ⟨some 12, _, _, _, _, _⟩) (v := ?_) rfl (by kernel_rfl) (by kernel_rfl) (by kernel_rfl) (fun _ _ _ h => h) (Or.inl ⟨by rfl, ?_⟩) (by assumption) ?_
  rotate_left
  · intro w hSw; (try dsimp only at hSw); go_simp; try (with_reducible rfl)
  rotate_left 0
  try simp only [Act.put, List.setIfInBounds_toArray, List.set_cons_zero, List.set_cons_succ]
  refine wpAnyH_take (i := 7) (oi := ⟨some 13, _, _, _, _, _⟩) (v := ?_) rfl (by kernel_rfl) (by kernel_rfl) (by kernel_rfl) (fun _ _ _ h => h) (Or.inl ⟨by rfl, ?_⟩) (by assumption) ?_
  rotate_left
  · intro w hSw; (try dsimp only at hSw); go_simp; try (with_reducible rfl)
  rotate_left 0
  try simp only [Act.put, List.setIfInBounds_toArray, List.set_cons_zero, List.set_cons_succ]
  refine wpAnyH_take (i := 9) (oi := ⟨some 15, _, _, _, _, _⟩) (v := ?_) rfl (by kernel_rfl) (by kernel_rfl) (by kernel_rfl) (fun _ _ _ h => h) (Or.inl ⟨by rfl, ?_⟩) (by assumption) ?_
  rotate_left
  · intro w hSw; (try dsimp only at hSw); go_simp; try (with_reducible rfl)
  rotate_left 0
  try simp only [Act.put, List.setIfInBounds_toArray, List.set_cons_zero, List.set_cons_succ]
  refine wpAnyH_take (i := 10) (oi := ⟨some 16, _, _, _, _, _⟩) (v := ?_) rfl (by kernel_rfl) (by kernel_rfl) (by kernel_rfl) (fun _ _ _ h => h) (Or.inl ⟨by rfl, ?_⟩) (by assumption) ?_
  rotate_left
  · intro w hSw; (try dsimp only at hSw); go_simp; try (with_reducible rfl)
  rotate_left 0
  try simp only [Act.put, List.setIfInBounds_toArray, List.set_cons_zero, List.set_cons_succ]
  refine wpAnyH_take (i := 12) (oi := ⟨some 18, _, _, _, _, _⟩) (v := ?_) rfl (by kernel_rfl) (by kernel_rfl) (by kernel_rfl) (fun _ _ _ h => h) (Or.inl ⟨by rfl, ?_⟩) (by assumption) ?_
  rotate_left
  · intro w hSw; (try dsimp only at hSw); go_simp; try (with_reducible rfl)
  rotate_left 0
  try simp only [Act.put, List.setIfInBounds_toArray, List.set_cons_zero, List.set_cons_succ]
  refine wpAnyH_take (i := 13) (oi := ⟨some 19, _, _, _, _, _⟩) (v := ?_) rfl (by kernel_rfl) (by kernel_rfl) (by kernel_rfl) (fun _ _ _ h => h) (Or.inl ⟨by rfl, ?_⟩) (by assumption) ?_
  rotate_left
  · intro w hSw; (try dsimp only at hSw); go_simp; try (with_reducible rfl)
  rotate_left 0
  try simp only [Act.put, List.setIfInBounds_toArray, List.set_cons_zero, List.set_cons_succ]
  refine wpAnyH_take (i := 15) (oi := ⟨some 21, _, _, _, _, _⟩) (v := ?_) rfl (by kernel_rfl) (by kernel_rfl) (by kernel_rfl) (fun _ _ _ h => h) (Or.inl ⟨by rfl, ?_⟩) (by assumption) ?_
  rotate_left
  · intro w hSw; (try dsimp only at hSw); go_simp; try (with_reducible rfl)
  rotate_left 0
  try simp only [Act.put, List.setIfInBounds_toArray, List.set_cons_zero, List.set_cons_succ]
  refine wpAnyH_take (i := 16) (oi := ⟨some 22, _, _, _, _, _⟩) (v := _) rfl (by kernel_rfl) (by kernel_rfl) (by kernel_rfl) (fun _ _ _ h => h) (yieldsIf_load_mid (by rfl) _ _ rfl _ _ rfl cid _ (fun _ hS => hS.1) hu rfl HID.out) (by assumption) ?_
  try simp only [Act.put, List.setIfInBounds_toArray, List.set_cons_zero, List.set_cons_succ]
  refine wpAnyH_take (i := 18) (oi := ⟨some 24, _, _, _, _, _⟩) (v := ?_) rfl (by kernel_rfl) (by kernel_rfl) (by kernel_rfl) (fun _ _ _ h => h) (Or.inl ⟨by rfl, ?_⟩) (by assumption) ?_
  rotate_left
  · intro w hSw; (try dsimp only at hSw); go_simp; try (with_reducible rfl)
  rotate_left 0
  try simp only [Act.put, List.setIfInBounds_toArray, List.set_cons_zero, List.set_cons_succ]
  refine wpAnyH_take (i := 19) (oi := ⟨some 25, _, _, _, _, _⟩) (v := ?_) rfl (by kernel_rfl) (by kernel_rfl) (by kernel_rfl) (fun _ _ _ h => h) (Or.inl ⟨by rfl, ?_⟩) (by assumption) ?_
  rotate_left
  · intro w hSw; (try dsimp only at hSw); go_simp; try (with_reducible rfl)
  rotate_left 0
  try simp only [Act.put, List.setIfInBounds_toArray, List.set_cons_zero, List.set_cons_succ]
  refine wpAnyH_take (i := 20) (oi := ⟨some 26, _, _, _, _, _⟩) (v := ?_) rfl (by kernel_rfl) (by kernel_rfl) (by kernel_rfl) (fun _ _ _ h => h) (Or.inl ⟨by rfl, ?_⟩) (by assumption) ?_
  rotate_left
  · intro w hSw; (try dsimp only at hSw); go_simp; try (with_reducible rfl)
  rotate_left 0
  try simp only [Act.put, List.setIfInBounds_toArray, List.set_cons_zero, List.set_cons_succ]
  refine wpAnyH_take (i := 21) (oi := ⟨some 27, _, _, _, _, _⟩) (v := ?_) rfl (by kernel_rfl) (by kernel_rfl) (by kernel_rfl) (fun _ _ _ h => h) (Or.inl ⟨by rfl, ?_⟩) (by assumption) ?_
  rotate_left
  · intro w hSw; (try dsimp only at hSw); go_simp; try (with_reducible rfl)
  rotate_left 0
  try simp only [Act.put, List.setIfInBounds_toArray, List.set_cons_zero, List.set_cons_succ]
  refine wpAnyH_take (i := 23) (oi := ⟨some 29, _, _, _, _, _⟩) (v := ?_) rfl (by kernel_rfl) (by kernel_rfl) (by kernel_rfl) (fun _ _ _ h => h) (Or.inl ⟨by rfl, ?_⟩) (by assumption) ?_
  rotate_left
  · intro w hSw; (try dsimp only at hSw); go_simp; try (with_reducible rfl)
  rotate_left 0
  try simp only [Act.put, List.setIfInBounds_toArray, List.set_cons_zero, List.set_cons_succ]
  refine wpAnyH_take (i := 24) (oi := ⟨some 30, _, _, _, _, _⟩) (v := ?_) rfl (by kernel_rfl) (by kernel_rfl) (by kernel_rfl) (fun _ _ _ h => h) (Or.inl ⟨by rfl, ?_⟩) (by assumption) ?_
  rotate_left
  · intro w hSw; (try dsimp only at hSw); go_simp; try (with_reducible rfl)
  rotate_left 0
  try simp only [Act.put, List.setIfInBounds_toArray, List.set_cons_zero, List.set_cons_succ]
  refine wpAnyH_ready (rs := [2, 27]) (by kernel_rfl) (by simp) ?_
  refine AllReadyH.cons (o := ⟨some 8, _, _, _, _, _⟩) rfl (fun K hK => ?_) (AllReadyH.cons (o := ⟨some 3, _, _, _, _, _⟩) rfl (fun K hK => ?_) AllReadyH.nil)
  · go_simp
    refine (N1.out _ q.below).mono ?_
    rintro e w0 ⟨A0, n0, c0, rfl, -, hr0, hb0⟩
    have q0 := q.step hr0 hb0
    try dsimp only
    refine hK.out _ _ ?_ (fun hHeld => ?_)
    · exact ALL.out _ q0.below
    clear hK K
    try simp only [Act.put, List.setIfInBounds_toArray, List.set_cons_zero, List.set_cons_succ]
    refine wpAnyH_ready (rs := [5, 27]) (by kernel_rfl) (by simp) ?_
    refine AllReadyH.cons (o := ⟨some 11, _, _, _, _, _⟩) rfl (fun K hK => ?_) (AllReadyH.cons (o := ⟨some 3, _, _, _, _, _⟩) rfl (fun K hK => ?_) AllReadyH.nil)
    · go_simp
      refine (N2.out _ q0.below).mono ?_
      rintro e w1 ⟨A1, n1, c1, rfl, -, hr1, hb1⟩
      have q1 := q0.step hr1 hb1
      try dsimp only
      refine hK.out _ _ ?_ (fun hHeld => ?_)
      · exact ALL.out _ q1.below
      clear hK K
      try simp only [Act.put, List.setIfInBounds_toArray, List.set_cons_zero, List.set_cons_succ]
      refine wpAnyH_ready (rs := [8, 27]) (by kernel_rfl) (by simp) ?_
      refine AllReadyH.cons (o := ⟨some 14, _, _, _, _, _⟩) rfl (fun K hK => ?_) (AllReadyH.cons (o := ⟨some 3, _, _, _, _, _⟩) rfl (fun K hK => ?_) AllReadyH.nil)
      · go_simp
        refine (N3.out _ q1.below).mono ?_
        rintro e w2 ⟨A2, n2, c2, rfl, -, hr2, hb2⟩
        have q2 := q1.step hr2 hb2
        try dsimp only
        refine hK.out _ _ ?_ (fun hHeld => ?_)
        · exact ALL.out _ q2.below
        clear hK K
        try simp only [Act.put, List.setIfInBounds_toArray, List.set_cons_zero, List.set_cons_succ]
        refine wpAnyH_ready (rs := [11, 27]) (by kernel_rfl) (by simp) ?_
        refine AllReadyH.cons (o := ⟨some 17, _, _, _, _, _⟩) rfl (fun K hK => ?_) (AllReadyH.cons (o := ⟨some 3, _, _, _, _, _⟩) rfl (fun K hK => ?_) AllReadyH.nil)
        · go_simp
          refine (N4.out _ q2.below).mono ?_
          rintro e w3 ⟨A3, n3, c3, rfl, -, hr3, hb3⟩
          have q3 := q2.step hr3 hb3
          try dsimp only
          refine hK.out _ _ ?_ (fun hHeld => ?_)
          · exact ALL.out _ q3.below
          clear hK K
          try simp only [Act.put, List.setIfInBounds_toArray, List.set_cons_zero, List.set_cons_succ]
          refine wpAnyH_ready (rs := [14, 27]) (by kernel_rfl) (by simp) ?_
          refine AllReadyH.cons (o := ⟨some 20, _, _, _, _, _⟩) rfl (fun K hK => ?_) (AllReadyH.cons (o := ⟨some 3, _, _, _, _, _⟩) rfl (fun K hK => ?_) AllReadyH.nil)
          · go_simp
            refine (N5.out _ q3.below).mono ?_
            rintro e w4 ⟨A4, n4, c4, rfl, -, hr4, hb4⟩
            have q4 := q3.step hr4 hb4
            try dsimp only
            refine hK.out _ _ ?_ (fun hHeld => ?_)
            · exact ALL.out _ q4.below
            clear hK K
            try simp only [Act.put, List.setIfInBounds_toArray, List.set_cons_zero, List.set_cons_succ]
            refine wpAnyH_ready (rs := [17, 27]) (by kernel_rfl) (by simp) ?_
            refine AllReadyH.cons (o := ⟨some 23, _, _, _, _, _⟩) rfl (fun K hK => ?_) (AllReadyH.cons (o := ⟨some 3, _, _, _, _, _⟩) rfl (fun K hK => ?_) AllReadyH.nil)
            · go_simp
              refine (NI.out _ q4.below).mono ?_
              rintro e w5 ⟨A5, n5, c5, rfl, -, hr5, hb5⟩
              have q5 := q4.step hr5 hb5
              try dsimp only
              refine hK.out _ _ ?_ (fun hHeld => ?_)
              · exact ALL.out _ q5.below
              clear hK K
              try simp only [Act.put, List.setIfInBounds_toArray, List.set_cons_zero, List.set_cons_succ]
              refine wpAnyH_ready (rs := [22, 27]) (by kernel_rfl) (by simp) ?_
              refine AllReadyH.cons (o := ⟨some 28, _, _, _, _, _⟩) rfl (fun K hK => ?_) (AllReadyH.cons (o := ⟨some 3, _, _, _, _, _⟩) rfl (fun K hK => ?_) AllReadyH.nil)
              · go_simp
                refine (NS.out _ q5.below).mono ?_
                rintro e w6 ⟨A6, n6, c6, rfl, -, hr6, hb6⟩
                have q6 := q5.step hr6 hb6
                try dsimp only
                refine hK.out _ _ ?_ (fun hHeld => ?_)
                · exact ALL.out _ q6.below
                clear hK K
                try simp only [Act.put, List.setIfInBounds_toArray, List.set_cons_zero, List.set_cons_succ]
                refine wpAnyH_ready (rs := [25, 27]) (by kernel_rfl) (by simp) ?_
                refine AllReadyH.cons (o := ⟨some 31, _, _, _, _, _⟩) rfl (fun K hK => ?_) (AllReadyH.cons (o := ⟨some 3, _, _, _, _, _⟩) rfl (fun K hK => ?_) AllReadyH.nil)
                · go_simp
                  refine (NL.out _ q6.below).mono ?_
                  rintro e w7 ⟨A7, n7, c7, rfl, -, hr7, hb7⟩
                  have q7 := q6.step hr7 hb7
                  try dsimp only
                  refine hK.out _ _ ?_ (fun hHeld => ?_)
                  · exact ALL.out _ q7.below
                  clear hK K
                  try simp only [Act.put, List.setIfInBounds_toArray, List.set_cons_zero, List.set_cons_succ]
                  refine wpAnyH_take (i := 26) (oi := ⟨some 32, _, _, _, _, _⟩) (v := ?_) rfl (by kernel_rfl) (by kernel_rfl) (by kernel_rfl) (fun _ _ _ h => h) (Or.inl ⟨by rfl, ?_⟩) (by assumption) ?_
                  rotate_left
                  · intro w hSw; (try dsimp only at hSw); go_simp; try (with_reducible rfl)
                  rotate_left 0
                  try simp only [Act.put, List.setIfInBounds_toArray, List.set_cons_zero, List.set_cons_succ]
                  refine wpAnyH_ready (rs := [27]) (by kernel_rfl) (by simp) ?_
                  refine AllReadyH.cons (o := ⟨some 3, _, _, _, _, _⟩) rfl (fun K hK => ?_) AllReadyH.nil
                  go_simp
                  have qv := Got.var q7 117 #[.slice none 0 0, .slice none 0 0, .slice none 0 0, .slice none 0 0, .slice none 0 0, .slice none 0 0, .slice none 0 0, .slice none 0 0, .slice none 0 0, .slice none 0 0]
                  try dsimp only
                  refine hK.out _ _ ?_ (fun hHeld => ?_)
                  · exact ALL.out _ qv.below
                  clear hK K
                  try simp only [Act.put, List.setIfInBounds_toArray, List.set_cons_zero, List.set_cons_succ]
                  refine wpAnyH_ready (rs := [28]) (by kernel_rfl) (by simp) ?_
                  refine AllReadyH.cons rfl (fun K hK => ?_) AllReadyH.nil
                  rw [if_pos (by rfl)]
                  refine wp_store_row 117 _ _ rfl _ #[.slice none 0 0, .slice A0 n0 c0, .slice A1 n1 c1, .slice A2 n2 c2, .slice A3 n3 c3, .slice A4 n4 c4, .slice A5 n5 c5, .slice Ad nd cd, .slice A6 n6 c6, .slice A7 n7 c7] rfl rfl 117 _ qv.blk (by kernel_rfl) (by rfl) (all_oneCell_toArray (by simp [Value.oneCell'])) ?_
                  have qz := GotV.store qv #[.slice none 0 0, .slice A0 n0 c0, .slice A1 n1 c1, .slice A2 n2 c2, .slice A3 n3 c3, .slice A4 n4 c4, .slice A5 n5 c5, .slice Ad nd cd, .slice A6 n6 c6, .slice A7 n7 c7]
                  try dsimp only
                  refine hK.out _ _ ?_ (fun hHeld => ?_)
                  · exact ALL.out _ qz.below
                  clear hK K
                  try simp only [Act.put, List.setIfInBounds_toArray, List.set_cons_zero, List.set_cons_succ]
                  refine wpAnyH_done (by kernel_rfl) ?_ _
                  exact HK.out _ _ rfl rfl ⟨rfl, rfl⟩ qz
                · go_simp
                  have qv := Got.var q6 117 #[.slice none 0 0, .slice none 0 0, .slice none 0 0, .slice none 0 0, .slice none 0 0, .slice none 0 0, .slice none 0 0, .slice none 0 0, .slice none 0 0, .slice none 0 0]
                  try dsimp only
                  refine hK.out _ _ ?_ (fun hHeld => ?_)
                  · exact ALL.out _ qv.below
                  clear hK K
                  try simp only [Act.put, List.setIfInBounds_toArray, List.set_cons_zero, List.set_cons_succ]
                  refine wpAnyH_ready (rs := [25]) (by kernel_rfl) (by simp) ?_
                  refine AllReadyH.cons (o := ⟨some 31, _, _, _, _, _⟩) rfl (fun K hK => ?_) AllReadyH.nil
                  go_simp
                  refine (NL.out _ qv.below).mono ?_
                  rintro e w7 ⟨A7, n7, c7, rfl, -, hr7, hb7⟩
                  have q7 := qv.step hr7 hb7
                  try dsimp only
                  refine hK.out _ _ ?_ (fun hHeld => ?_)
                  · exact ALL.out _ q7.below
                  clear hK K
                  try simp only [Act.put, List.setIfInBounds_toArray, List.set_cons_zero, List.set_cons_succ]
                  refine wpAnyH_take (i := 26) (oi := ⟨some 32, _, _, _, _, _⟩) (v := ?_) rfl (by kernel_rfl) (by kernel_rfl) (by kernel_rfl) (fun _ _ _ h => h) (Or.inl ⟨by rfl, ?_⟩) (by assumption) ?_
                  rotate_left
                  · intro w hSw; (try dsimp only at hSw); go_simp; try (with_reducible rfl)
                  rotate_left 0
                  try simp only [Act.put, List.setIfInBounds_toArray, List.set_cons_zero, List.set_cons_succ]
                  refine wpAnyH_ready (rs := [28]) (by kernel_rfl) (by simp) ?_
                  refine AllReadyH.cons rfl (fun K hK => ?_) AllReadyH.nil
                  rw [if_pos (by rfl)]
                  refine wp_store_row 117 _ _ rfl _ #[.slice none 0 0, .slice A0 n0 c0, .slice A1 n1 c1, .slice A2 n2 c2, .slice A3 n3 c3, .slice A4 n4 c4, .slice A5 n5 c5, .slice Ad nd cd, .slice A6 n6 c6, .slice A7 n7 c7] rfl rfl 117 _ q7.blk (by kernel_rfl) (by rfl) (all_oneCell_toArray (by simp [Value.oneCell'])) ?_
                  have qz := GotV.store q7 #[.slice none 0 0, .slice A0 n0 c0, .slice A1 n1 c1, .slice A2 n2 c2, .slice A3 n3 c3, .slice A4 n4 c4, .slice A5 n5 c5, .slice Ad nd cd, .slice A6 n6 c6, .slice A7 n7 c7]
                  try dsimp only
                  refine hK.out _ _ ?_ (fun hHeld => ?_)
                  · exact ALL.out _ qz.below
                  clear hK K
                  try simp only [Act.put, List.setIfInBounds_toArray, List.set_cons_zero, List.set_cons_succ]
                  refine wpAnyH_done (by kernel_rfl) ?_ _
                  exact HK.out _ _ rfl rfl ⟨rfl, rfl⟩ qz
              · go_simp
                have qv := Got.var q5 117 #[.slice none 0 0, .slice none 0 0, .slice none 0 0, .slice none 0 0, .slice none 0 0, .slice none 0 0, .slice none 0 0, .slice none 0 0, .slice none 0 0, .slice none 0 0]
                try dsimp only
                refine hK.out _ _ ?_ (fun hHeld => ?_)
                · exact ALL.out _ qv.below
                clear hK K
                try simp only [Act.put, List.setIfInBounds_toArray, List.set_cons_zero, List.set_cons_succ]
                refine wpAnyH_ready (rs := [22]) (by kernel_rfl) (by simp) ?_
                refine AllReadyH.cons (o := ⟨some 28, _, _, _, _, _⟩) rfl (fun K hK => ?_) AllReadyH.nil
                go_simp
                refine (NS.out _ qv.below).mono ?_
                rintro e w6 ⟨A6, n6, c6, rfl, -, hr6, hb6⟩
                have q6 := qv.step hr6 hb6
                try dsimp only
                refine hK.out _ _ ?_ (fun hHeld => ?_)
                · exact ALL.out _ q6.below
                clear hK K
                try simp only [Act.put, List.setIfInBounds_toArray, List.set_cons_zero, List.set_cons_succ]
                refine wpAnyH_ready (rs := [25]) (by kernel_rfl) (by simp) ?_
                refine AllReadyH.cons (o := ⟨some 31, _, _, _, _, _⟩) rfl (fun K hK => ?_) AllReadyH.nil
                go_simp
                refine (NL.out _ q6.below).mono ?_
                rintro e w7 ⟨A7, n7, c7, rfl, -, hr7, hb7⟩
                have q7 := q6.step hr7 hb7
                try dsimp only
                refine hK.out _ _ ?_ (fun hHeld => ?_)
                · exact ALL.out _ q7.below
                clear hK K
                try simp only [Act.put, List.setIfInBounds_toArray, List.set_cons_zero, List.set_cons_succ]
                refine wpAnyH_take (i := 26) (oi := ⟨some 32, _, _, _, _, _⟩) (v := ?_) rfl (by kernel_rfl) (by kernel_rfl) (by kernel_rfl) (fun _ _ _ h => h) (Or.inl ⟨by rfl, ?_⟩) (by assumption) ?_
                rotate_left
                · intro w hSw; (try dsimp only at hSw); go_simp; try (with_reducible rfl)
                rotate_left 0
                try simp only [Act.put, List.setIfInBounds_toArray, List.set_cons_zero, List.set_cons_succ]
                refine wpAnyH_ready (rs := [28]) (by kernel_rfl) (by simp) ?_
                refine AllReadyH.cons rfl (fun K hK => ?_) AllReadyH.nil
                rw [if_pos (by rfl)]
                refine wp_store_row 117 _ _ rfl _ #[.slice none 0 0, .slice A0 n0 c0, .slice A1 n1 c1, .slice A2 n2 c2, .slice A3 n3 c3, .slice A4 n4 c4, .slice A5 n5 c5, .slice Ad nd cd, .slice A6 n6 c6, .slice A7 n7 c7] rfl rfl 117 _ q7.blk (by kernel_rfl) (by rfl) (all_oneCell_toArray (by simp [Value.oneCell'])) ?_
                have qz := GotV.store q7 #[.slice none 0 0, .slice A0 n0 c0, .slice A1 n1 c1, .slice A2 n2 c2, .slice A3 n3 c3, .slice A4 n4 c4, .slice A5 n5 c5, .slice Ad nd cd, .slice A6 n6 c6, .slice A7 n7 c7]
                try dsimp only
                refine hK.out _ _ ?_ (fun hHeld => ?_)
                · exact ALL.out _ qz.below
                clear hK K
                try simp only [Act.put, List.setIfInBounds_toArray, List.set_cons_zero, List.set_cons_succ]
                refine wpAnyH_done (by kernel_rfl) ?_ _
                exact HK.out _ _ rfl rfl ⟨rfl, rfl⟩ qz
            · go_simp
              have qv := Got.var q4 117 #[.slice none 0 0, .slice none 0 0, .slice none 0 0, .slice none 0 0, .slice none 0 0, .slice none 0 0, .slice none 0 0, .slice none 0 0, .slice none 0 0, .slice none 0 0]
              try dsimp only
              refine hK.out _ _ ?_ (fun hHeld => ?_)
              · exact ALL.out _ qv.below
              clear hK K
              try simp only [Act.put, List.setIfInBounds_toArray, List.set_cons_zero, List.set_cons_succ]
              refine wpAnyH_ready (rs := [17]) (by kernel_rfl) (by simp) ?_
              refine AllReadyH.cons (o := ⟨some 23, _, _, _, _, _⟩) rfl (fun K hK => ?_) AllReadyH.nil
              go_simp
              refine (NI.out _ qv.below).mono ?_
              rintro e w5 ⟨A5, n5, c5, rfl, -, hr5, hb5⟩
              have q5 := qv.step hr5 hb5
              try dsimp only
              refine hK.out _ _ ?_ (fun hHeld => ?_)
              · exact ALL.out _ q5.below
              clear hK K
              try simp only [Act.put, List.setIfInBounds_toArray, List.set_cons_zero, List.set_cons_succ]
              refine wpAnyH_ready (rs := [22]) (by kernel_rfl) (by simp) ?_
              refine AllReadyH.cons (o := ⟨some 28, _, _, _, _, _⟩) rfl (fun K hK => ?_) AllReadyH.nil
              go_simp
              refine (NS.out _ q5.below).mono ?_
              rintro e w6 ⟨A6, n6, c6, rfl, -, hr6, hb6⟩
              have q6 := q5.step hr6 hb6
              try dsimp only
              refine hK.out _ _ ?_ (fun hHeld => ?_)
              · exact ALL.out _ q6.below
              clear hK K
              try simp only [Act.put, List.setIfInBounds_toArray, List.set_cons_zero, List.set_cons_succ]
              refine wpAnyH_ready (rs := [25]) (by kernel_rfl) (by simp) ?_
              refine AllReadyH.cons (o := ⟨some 31, _, _, _, _, _⟩) rfl (fun K hK => ?_) AllReadyH.nil
              go_simp
              refine (NL.out _ q6.below).mono ?_
              rintro e w7 ⟨A7, n7, c7, rfl, -, hr7, hb7⟩
              have q7 := q6.step hr7 hb7
              try dsimp only
              refine hK.out _ _ ?_ (fun hHeld => ?_)
              · exact ALL.out _ q7.below
              clear hK K
              try simp only [Act.put, List.setIfInBounds_toArray, List.set_cons_zero, List.set_cons_succ]
              refine wpAnyH_take (i := 26) (oi := ⟨some 32, _, _, _, _, _⟩) (v := ?_) rfl (by kernel_rfl) (by kernel_rfl) (by kernel_rfl) (fun _ _ _ h => h) (Or.inl ⟨by rfl, ?_⟩) (by assumption) ?_
              rotate_left
              · intro w hSw; (try dsimp only at hSw); go_simp; try (with_reducible rfl)
              rotate_left 0
              try simp only [Act.put, List.setIfInBounds_toArray, List.set_cons_zero, List.set_cons_succ]
              refine wpAnyH_ready (rs := [28]) (by kernel_rfl) (by simp) ?_
              refine AllReadyH.cons rfl (fun K hK => ?_) AllReadyH.nil
              rw [if_pos (by rfl)]
              refine wp_store_row 117 _ _ rfl _ #[.slice none 0 0, .slice A0 n0 c0, .slice A1 n1 c1, .slice A2 n2 c2, .slice A3 n3 c3, .slice A4 n4 c4, .slice A5 n5 c5, .slice Ad nd cd, .slice A6 n6 c6, .slice A7 n7 c7] rfl rfl 117 _ q7.blk (by kernel_rfl) (by rfl) (all_oneCell_toArray (by simp [Value.oneCell'])) ?_
              have qz := GotV.store q7 #[.slice none 0 0, .slice A0 n0 c0, .slice A1 n1 c1, .slice A2 n2 c2, .slice A3 n3 c3, .slice A4 n4 c4, .slice A5 n5 c5, .slice Ad nd cd, .slice A6 n6 c6, .slice A7 n7 c7]
              try dsimp only
              refine hK.out _ _ ?_ (fun hHeld => ?_)
              · exact ALL.out _ qz.below
              clear hK K
              try simp only [Act.put, List.setIfInBounds_toArray, List.set_cons_zero, List.set_cons_succ]
              refine wpAnyH_done (by kernel_rfl) ?_ _
              exact HK.out _ _ rfl rfl ⟨rfl, rfl⟩ qz
          · go_simp
            have qv := Got.var q3 117 #[.slice none 0 0, .slice none 0 0, .slice none 0 0, .slice none 0 0, .slice none 0 0, .slice none 0 0, .slice none 0 0, .slice none 0 0, .slice none 0 0, .slice none 0 0]
            try dsimp only
            refine hK.out _ _ ?_ (fun hHeld => ?_)
            · exact ALL.out _ qv.below
            clear hK K
            try simp only [Act.put, List.setIfInBounds_toArray, List.set_cons_zero, List.set_cons_succ]
            refine wpAnyH_ready (rs := [14]) (by kernel_rfl) (by simp) ?_
            refine AllReadyH.cons (o := ⟨some 20, _, _, _, _, _⟩) rfl (fun K hK => ?_) AllReadyH.nil
            go_simp
            refine (N5.out _ qv.below).mono ?_
            rintro e w4 ⟨A4, n4, c4, rfl, -, hr4, hb4⟩
            have q4 := qv.step hr4 hb4
            try dsimp only
            refine hK.out _ _ ?_ (fun hHeld => ?_)
            · exact ALL.out _ q4.below
            clear hK K
            try simp only [Act.put, List.setIfInBounds_toArray, List.set_cons_zero, List.set_cons_succ]
            refine wpAnyH_ready (rs := [17]) (by kernel_rfl) (by simp) ?_
            refine AllReadyH.cons (o := ⟨some 23, _, _, _, _, _⟩) rfl (fun K hK => ?_) AllReadyH.nil
            go_simp
            refine (NI.out _ q4.below).mono ?_
            rintro e w5 ⟨A5, n5, c5, rfl, -, hr5, hb5⟩
            have q5 := q4.step hr5 hb5
            try dsimp only
            refine hK.out _ _ ?_ (fun hHeld => ?_)
            · exact ALL.out _ q5.below
            clear hK K
            try simp only [Act.put, List.setIfInBounds_toArray, List.set_cons_zero, List.set_cons_succ]
            refine wpAnyH_ready (rs := [22]) (by kernel_rfl) (by simp) ?_
            refine AllReadyH.cons (o := ⟨some 28, _, _, _, _, _⟩) rfl (fun K hK => ?_) AllReadyH.nil
            go_simp
            refine (NS.out _ q5.below).mono ?_
            rintro e w6 ⟨A6, n6, c6, rfl, -, hr6, hb6⟩
            have q6 := q5.step hr6 hb6
            try dsimp only
            refine hK.out _ _ ?_ (fun hHeld => ?_)
            · exact ALL.out _ q6.below
            clear hK K
            try simp only [Act.put, List.setIfInBounds_toArray, List.set_cons_zero, List.set_cons_succ]
            refine wpAnyH_ready (rs := [25]) (by kernel_rfl) (by simp) ?_
            refine AllReadyH.cons (o := ⟨some 31, _, _, _, _, _⟩) rfl (fun K hK => ?_) AllReadyH.nil
            go_simp
            refine (NL.out _ q6.below).mono ?_
            rintro e w7 ⟨A7, n7, c7, rfl, -, hr7, hb7⟩
            have q7 := q6.step hr7 hb7
            try dsimp only
            refine hK.out _ _ ?_ (fun hHeld => ?_)
            · exact ALL.out _ q7.below
            clear hK K
            try simp only [Act.put, List.setIfInBounds_toArray, List.set_cons_zero, List.set_cons_succ]
            refine wpAnyH_take (i := 26) (oi := ⟨some 32, _, _, _, _, _⟩) (v := ?_) rfl (by kernel_rfl) (by kernel_rfl) (by kernel_rfl) (fun _ _ _ h => h) (Or.inl ⟨by rfl, ?_⟩) (by assumption) ?_
            rotate_left
            · intro w hSw; (try dsimp only at hSw); go_simp; try (with_reducible rfl)
            rotate_left 0
            try simp only [Act.put, List.setIfInBounds_toArray, List.set_cons_zero, List.set_cons_succ]
            refine wpAnyH_ready (rs := [28]) (by kernel_rfl) (by simp) ?_
            refine AllReadyH.cons rfl (fun K hK => ?_) AllReadyH.nil
            rw [if_pos (by rfl)]
            refine wp_store_row 117 _ _ rfl _ #[.slice none 0 0, .slice A0 n0 c0, .slice A1 n1 c1, .slice A2 n2 c2, .slice A3 n3 c3, .slice A4 n4 c4, .slice A5 n5 c5, .slice Ad nd cd, .slice A6 n6 c6, .slice A7 n7 c7] rfl rfl 117 _ q7.blk (by kernel_rfl) (by rfl) (all_oneCell_toArray (by simp [Value.oneCell'])) ?_
            have qz := GotV.store q7 #[.slice none 0 0, .slice A0 n0 c0, .slice A1 n1 c1, .slice A2 n2 c2, .slice A3 n3 c3, .slice A4 n4 c4, .slice A5 n5 c5, .slice Ad nd cd, .slice A6 n6 c6, .slice A7 n7 c7]
            try dsimp only
            refine hK.out _ _ ?_ (fun hHeld => ?_)
            · exact ALL.out _ qz.below
            clear hK K
            try simp only [Act.put, List.setIfInBounds_toArray, List.set_cons_zero, List.set_cons_succ]
            refine wpAnyH_done (by kernel_rfl) ?_ _
            exact HK.out _ _ rfl rfl ⟨rfl, rfl⟩ qz
        · go_simp
          have qv := Got.var q2 117 #[.slice none 0 0, .slice none 0 0, .slice none 0 0, .slice none 0 0, .slice none 0 0, .slice none 0 0, .slice none 0 0, .slice none 0 0, .slice none 0 0, .slice none 0 0]
          try dsimp only
          refine hK.out _ _ ?_ (fun hHeld => ?_)
          · exact ALL.out _ qv.below
          clear hK K
          try simp only [Act.put, List.setIfInBounds_toArray, List.set_cons_zero, List.set_cons_succ]
          refine wpAnyH_ready (rs := [11]) (by kernel_rfl) (by simp) ?_
          refine AllReadyH.cons (o := ⟨some 17, _, _, _, _, _⟩) rfl (fun K hK => ?_) AllReadyH.nil
          go_simp
          refine (N4.out _ qv.below).mono ?_
          rintro e w3 ⟨A3, n3, c3, rfl, -, hr3, hb3⟩
          have q3 := qv.step hr3 hb3
          try dsimp only
          refine hK.out _ _ ?_ (fun hHeld => ?_)
          · exact ALL.out _ q3.below
          clear hK K
          try simp only [Act.put, List.setIfInBounds_toArray, List.set_cons_zero, List.set_cons_succ]
          refine wpAnyH_ready (rs := [14]) (by kernel_rfl) (by simp) ?_
          refine AllReadyH.cons (o := ⟨some 20, _, _, _, _, _⟩) rfl (fun K hK => ?_) AllReadyH.nil
          go_simp
          refine (N5.out _ q3.below).mono ?_
          rintro e w4 ⟨A4, n4, c4, rfl, -, hr4, hb4⟩
          have q4 := q3.step hr4 hb4
          try dsimp only
          refine hK.out _ _ ?_ (fun hHeld => ?_)
          · exact ALL.out _ q4.below
          clear hK K
          try simp only [Act.put, List.setIfInBounds_toArray, List.set_cons_zero, List.set_cons_succ]
          refine wpAnyH_ready (rs := [17]) (by kernel_rfl) (by simp) ?_
          refine AllReadyH.cons (o := ⟨some 23, _, _, _, _, _⟩) rfl (fun K hK => ?_) AllReadyH.nil
          go_simp
          refine (NI.out _ q4.below).mono ?_
          rintro e w5 ⟨A5, n5, c5, rfl, -, hr5, hb5⟩
          have q5 := q4.step hr5 hb5
          try dsimp only
          refine hK.out _ _ ?_ (fun hHeld => ?_)
          · exact ALL.out _ q5.below
          clear hK K
          try simp only [Act.put, List.setIfInBounds_toArray, List.set_cons_zero, List.set_cons_succ]
          refine wpAnyH_ready (rs := [22]) (by kernel_rfl) (by simp) ?_
          refine AllReadyH.cons (o := ⟨some 28, _, _, _, _, _⟩) rfl (fun K hK => ?_) AllReadyH.nil
          go_simp
          refine (NS.out _ q5.below).mono ?_
          rintro e w6 ⟨A6, n6, c6, rfl, -, hr6, hb6⟩
          have q6 := q5.step hr6 hb6
          try dsimp only
          refine hK.out _ _ ?_ (fun hHeld => ?_)
          · exact ALL.out _ q6.below
          clear hK K
          try simp only [Act.put, List.setIfInBounds_toArray, List.set_cons_zero, List.set_cons_succ]
          refine wpAnyH_ready (rs := [25]) (by kernel_rfl) (by simp) ?_
          refine AllReadyH.cons (o := ⟨some 31, _, _, _, _, _⟩) rfl (fun K hK => ?_) AllReadyH.nil
          go_simp
          refine (NL.out _ q6.below).mono ?_
          rintro e w7 ⟨A7, n7, c7, rfl, -, hr7, hb7⟩
          have q7 := q6.step hr7 hb7
          try dsimp only
          refine hK.out _ _ ?_ (fun hHeld => ?_)
          · exact ALL.out _ q7.below
          clear hK K
          try simp only [Act.put, List.setIfInBounds_toArray, List.set_cons_zero, List.set_cons_succ]
          refine wpAnyH_take (i := 26) (oi := ⟨some 32, _, _, _, _, _⟩) (v := ?_) rfl (by kernel_rfl) (by kernel_rfl) (by kernel_rfl) (fun _ _ _ h => h) (Or.inl ⟨by rfl, ?_⟩) (by assumption) ?_
          rotate_left
          · intro w hSw; (try dsimp only at hSw); go_simp; try (with_reducible rfl)
          rotate_left 0
          try simp only [Act.put, List.setIfInBounds_toArray, List.set_cons_zero, List.set_cons_succ]
          refine wpAnyH_ready (rs := [28]) (by kernel_rfl) (by simp) ?_
          refine AllReadyH.cons rfl (fun K hK => ?_) AllReadyH.nil
          rw [if_pos (by rfl)]
          refine wp_store_row 117 _ _ rfl _ #[.slice none 0 0, .slice A0 n0 c0, .slice A1 n1 c1, .slice A2 n2 c2, .slice A3 n3 c3, .slice A4 n4 c4, .slice A5 n5 c5, .slice Ad nd cd, .slice A6 n6 c6, .slice A7 n7 c7] rfl rfl 117 _ q7.blk (by kernel_rfl) (by rfl) (all_oneCell_toArray (by simp [Value.oneCell'])) ?_
          have qz := GotV.store q7 #[.slice none 0 0, .slice A0 n0 c0, .slice A1 n1 c1, .slice A2 n2 c2, .slice A3 n3 c3, .slice A4 n4 c4, .slice A5 n5 c5, .slice Ad nd cd, .slice A6 n6 c6, .slice A7 n7 c7]
          try dsimp only
          refine hK.out _ _ ?_ (fun hHeld => ?_)
          · exact ALL.out _ qz.below
          clear hK K
          try simp only [Act.put, List.setIfInBounds_toArray, List.set_cons_zero, List.set_cons_succ]
          refine wpAnyH_done (by kernel_rfl) ?_ _
          exact HK.out _ _ rfl rfl ⟨rfl, rfl⟩ qz
      · go_simp
        have qv := Got.var q1 117 #[.slice none 0 0, .slice none 0 0, .slice none 0 0, .slice none 0 0, .slice none 0 0, .slice none 0 0, .slice none 0 0, .slice none 0 0, .slice none 0 0, .slice none 0 0]
        try dsimp only
        refine hK.out _ _ ?_ (fun hHeld => ?_)
        · exact ALL.out _ qv.below
        clear hK K
        try simp only [Act.put, List.setIfInBounds_toArray, List.set_cons_zero, List.set_cons_succ]
        refine wpAnyH_ready (rs := [8]) (by kernel_rfl) (by simp) ?_
        refine AllReadyH.cons (o := ⟨some 14, _, _, _, _, _⟩) rfl (fun K hK => ?_) AllReadyH.nil
        go_simp
        refine (N3.out _ qv.below).mono ?_
        rintro e w2 ⟨A2, n2, c2, rfl, -, hr2, hb2⟩
        have q2 := qv.step hr2 hb2
        try dsimp only
        refine hK.out _ _ ?_ (fun hHeld => ?_)
        · exact ALL.out _ q2.below
        clear hK K
        try simp only [Act.put, List.setIfInBounds_toArray, List.set_cons_zero, List.set_cons_succ]
        refine wpAnyH_ready (rs := [11]) (by kernel_rfl) (by simp) ?_
        refine AllReadyH.cons (o := ⟨some 17, _, _, _, _, _⟩) rfl (fun K hK => ?_) AllReadyH.nil
        go_simp
        refine (N4.out _ q2.below).mono ?_
        rintro e w3 ⟨A3, n3, c3, rfl, -, hr3, hb3⟩
        have q3 := q2.step hr3 hb3
        try dsimp only
        refine hK.out _ _ ?_ (fun hHeld => ?_)
        · exact ALL.out _ q3.below
        clear hK K
        try simp only [Act.put, List.setIfInBounds_toArray, List.set_cons_zero, List.set_cons_succ]
        refine wpAnyH_ready (rs := [14]) (by kernel_rfl) (by simp) ?_
        refine AllReadyH.cons (o := ⟨some 20, _, _, _, _, _⟩) rfl (fun K hK => ?_) AllReadyH.nil
        go_simp
        refine (N5.out _ q3.below).mono ?_
        rintro e w4 ⟨A4, n4, c4, rfl, -, hr4, hb4⟩
        have q4 := q3.step hr4 hb4
        try dsimp only
        refine hK.out _ _ ?_ (fun hHeld => ?_)
        · exact ALL.out _ q4.below
        clear hK K
        try simp only [Act.put, List.setIfInBounds_toArray, List.set_cons_zero, List.set_cons_succ]
        refine wpAnyH_ready (rs := [17]) (by kernel_rfl) (by simp) ?_
        refine AllReadyH.cons (o := ⟨some 23, _, _, _, _, _⟩) rfl (fun K hK => ?_) AllReadyH.nil
        go_simp
        refine (NI.out _ q4.below).mono ?_
        rintro e w5 ⟨A5, n5, c5, rfl, -, hr5, hb5⟩
        have q5 := q4.step hr5 hb5
        try dsimp only
        refine hK.out _ _ ?_ (fun hHeld => ?_)
        · exact ALL.out _ q5.below
        clear hK K
        try simp only [Act.put, List.setIfInBounds_toArray, List.set_cons_zero, List.set_cons_succ]
        refine wpAnyH_ready (rs := [22]) (by kernel_rfl) (by simp) ?_
        refine AllReadyH.cons (o := ⟨some 28, _, _, _, _, _⟩) rfl (fun K hK => ?_) AllReadyH.nil
        go_simp
        refine (NS.out _ q5.below).mono ?_
        rintro e w6 ⟨A6, n6, c6, rfl, -, hr6, hb6⟩
        have q6 := q5.step hr6 hb6
        try dsimp only
        refine hK.out _ _ ?_ (fun hHeld => ?_)
        · exact ALL.out _ q6.below
        clear hK K
        try simp only [Act.put, List.setIfInBounds_toArray, List.set_cons_zero, List.set_cons_succ]
        refine wpAnyH_ready (rs := [25]) (by kernel_rfl) (by simp) ?_
        refine AllReadyH.cons (o := ⟨some 31, _, _, _, _, _⟩) rfl (fun K hK => ?_) AllReadyH.nil
        go_simp
        refine (NL.out _ q6.below).mono ?_
        rintro e w7 ⟨A7, n7, c7, rfl, -, hr7, hb7⟩
        have q7 := q6.step hr7 hb7
        try dsimp only
        refine hK.out _ _ ?_ (fun hHeld => ?_)
        · exact ALL.out _ q7.below
        clear hK K
        try simp only [Act.put, List.setIfInBounds_toArray, List.set_cons_zero, List.set_cons_succ]
        refine wpAnyH_take (i := 26) (oi := ⟨some 32, _, _, _, _, _⟩) (v := ?_) rfl (by kernel_rfl) (by kernel_rfl) (by kernel_rfl) (fun _ _ _ h => h) (Or.inl ⟨by rfl, ?_⟩) (by assumption) ?_
        rotate_left
        · intro w hSw; (try dsimp only at hSw); go_simp; try (with_reducible rfl)
        rotate_left 0
        try simp only [Act.put, List.setIfInBounds_toArray, List.set_cons_zero, List.set_cons_succ]
        refine wpAnyH_ready (rs := [28]) (by kernel_rfl) (by simp) ?_
        refine AllReadyH.cons rfl (fun K hK => ?_) AllReadyH.nil
        rw [if_pos (by rfl)]
        refine wp_store_row 117 _ _ rfl _ #[.slice none 0 0, .slice A0 n0 c0, .slice A1 n1 c1, .slice A2 n2 c2, .slice A3 n3 c3, .slice A4 n4 c4, .slice A5 n5 c5, .slice Ad nd cd, .slice A6 n6 c6, .slice A7 n7 c7] rfl rfl 117 _ q7.blk (by kernel_rfl) (by rfl) (all_oneCell_toArray (by simp [Value.oneCell'])) ?_
        have qz := GotV.store q7 #[.slice none 0 0, .slice A0 n0 c0, .slice A1 n1 c1, .slice A2 n2 c2, .slice A3 n3 c3, .slice A4 n4 c4, .slice A5 n5 c5, .slice Ad nd cd, .slice A6 n6 c6, .slice A7 n7 c7]
        try dsimp only
        refine hK.out _ _ ?_ (fun hHeld => ?_)
        · exact ALL.out _ qz.below
        clear hK K
        try simp only [Act.put, List.setIfInBounds_toArray, List.set_cons_zero, List.set_cons_succ]
        refine wpAnyH_done (by kernel_rfl) ?_ _
        exact HK.out _ _ rfl rfl ⟨rfl, rfl⟩ qz
    · go_simp
      have qv := Got.var q0 117 #[.slice none 0 0, .slice none 0 0, .slice none 0 0, .slice none 0 0, .slice none 0 0, .slice none 0 0, .slice none 0 0, .slice none 0 0, .slice none 0 0, .slice none 0 0]
      try dsimp only
      refine hK.out _ _ ?_ (fun hHeld => ?_)
      · exact ALL.out _ qv.below
      clear hK K
      try simp only [Act.put, List.setIfInBounds_toArray, List.set_cons_zero, List.set_cons_succ]
      refine wpAnyH_ready (rs := [5]) (by kernel_rfl) (by simp) ?_
      refine AllReadyH.cons (o := ⟨some 11, _, _, _, _, _⟩) rfl (fun K hK => ?_) AllReadyH.nil
      go_simp
      refine (N2.out _ qv.below).mono ?_
      rintro e w1 ⟨A1, n1, c1, rfl, -, hr1, hb1⟩
      have q1 := qv.step hr1 hb1
      try dsimp only
      refine hK.out _ _ ?_ (fun hHeld => ?_)
      · exact ALL.out _ q1.below
      clear hK K
      try simp only [Act.put, List.setIfInBounds_toArray, List.set_cons_zero, List.set_cons_succ]
      refine wpAnyH_ready (rs := [8]) (by kernel_rfl) (by simp) ?_
      refine AllReadyH.cons (o := ⟨some 14, _, _, _, _, _⟩) rfl (fun K hK => ?_) AllReadyH.nil
      go_simp
      refine (N3.out _ q1.below).mono ?_
      rintro e w2 ⟨A2, n2, c2, rfl, -, hr2, hb2⟩
      have q2 := q1.step hr2 hb2
      try dsimp only
      refine hK.out _ _ ?_ (fun hHeld => ?_)
      · exact ALL.out _ q2.below
      clear hK K
      try simp only [Act.put, List.setIfInBounds_toArray, List.set_cons_zero, List.set_cons_succ]
      refine wpAnyH_ready (rs := [11]) (by kernel_rfl) (by simp) ?_
      refine AllReadyH.cons (o := ⟨some 17, _, _, _, _, _⟩) rfl (fun K hK => ?_) AllReadyH.nil
      go_simp
      refine (N4.out _ q2.below).mono ?_
      rintro e w3 ⟨A3, n3, c3, rfl, -, hr3, hb3⟩
      have q3 := q2.step hr3 hb3
      try dsimp only
      refine hK.out _ _ ?_ (fun hHeld => ?_)
      · exact ALL.out _ q3.below
      clear hK K
      try simp only [Act.put, List.setIfInBounds_toArray, List.set_cons_zero, List.set_cons_succ]
      refine wpAnyH_ready (rs := [14]) (by kernel_rfl) (by simp) ?_
      refine AllReadyH.cons (o := ⟨some 20, _, _, _, _, _⟩) rfl (fun K hK => ?_) AllReadyH.nil
      go_simp
      refine (N5.out _ q3.below).mono ?_
      rintro e w4 ⟨A4, n4, c4, rfl, -, hr4, hb4⟩
      have q4 := q3.step hr4 hb4
      try dsimp only
      refine hK.out _ _ ?_ (fun hHeld => ?_)
      · exact ALL.out _ q4.below
      clear hK K
      try simp only [Act.put, List.setIfInBounds_toArray, List.set_cons_zero, List.set_cons_succ]
      refine wpAnyH_ready (rs := [17]) (by kernel_rfl) (by simp) ?_
      refine AllReadyH.cons (o := ⟨some 23, _, _, _, _, _⟩) rfl (fun K hK => ?_) AllReadyH.nil
      go_simp
      refine (NI.out _ q4.below).mono ?_
      rintro e w5 ⟨A5, n5, c5, rfl, -, hr5, hb5⟩
      have q5 := q4.step hr5 hb5
      try dsimp only
      refine hK.out _ _ ?_ (fun hHeld => ?_)
      · exact ALL.out _ q5.below
      clear hK K
      try simp only [Act.put, List.setIfInBounds_toArray, List.set_cons_zero, List.set_cons_succ]
      refine wpAnyH_ready (rs := [22]) (by kernel_rfl) (by simp) ?_
      refine AllReadyH.cons (o := ⟨some 28, _, _, _, _, _⟩) rfl (fun K hK => ?_) AllReadyH.nil
      go_simp
      refine (NS.out _ q5.below).mono ?_
      rintro e w6 ⟨A6, n6, c6, rfl, -, hr6, hb6⟩
      have q6 := q5.step hr6 hb6
      try dsimp only
      refine hK.out _ _ ?_ (fun hHeld => ?_)
      · exact ALL.out _ q6.below
      clear hK K
      try simp only [Act.put, List.setIfInBounds_toArray, List.set_cons_zero, List.set_cons_succ]
      refine wpAnyH_ready (rs := [25]) (by kernel_rfl) (by simp) ?_
      refine AllReadyH.cons (o := ⟨some 31, _, _, _, _, _⟩) rfl (fun K hK => ?_) AllReadyH.nil
      go_simp
      refine (NL.out _ q6.below).mono ?_
      rintro e w7 ⟨A7, n7, c7, rfl, -, hr7, hb7⟩
      have q7 := q6.step hr7 hb7
      try dsimp only
      refine hK.out _ _ ?_ (fun hHeld => ?_)
      · exact ALL.out _ q7.below
      clear hK K
      try simp only [Act.put, List.setIfInBounds_toArray, List.set_cons_zero, List.set_cons_succ]
      refine wpAnyH_take (i := 26) (oi := ⟨some 32, _, _, _, _, _⟩) (v := ?_) rfl (by kernel_rfl) (by kernel_rfl) (by kernel_rfl) (fun _ _ _ h => h) (Or.inl ⟨by rfl, ?_⟩) (by assumption) ?_
      rotate_left
      · intro w hSw; (try dsimp only at hSw); go_simp; try (with_reducible rfl)
      rotate_left 0
      try simp only [Act.put, List.setIfInBounds_toArray, List.set_cons_zero, List.set_cons_succ]
      refine wpAnyH_ready (rs := [28]) (by kernel_rfl) (by simp) ?_
      refine AllReadyH.cons rfl (fun K hK => ?_) AllReadyH.nil
      rw [if_pos (by rfl)]
      refine wp_store_row 117 _ _ rfl _ #[.slice none 0 0, .slice A0 n0 c0, .slice A1 n1 c1, .slice A2 n2 c2, .slice A3 n3 c3, .slice A4 n4 c4, .slice A5 n5 c5, .slice Ad nd cd, .slice A6 n6 c6, .slice A7 n7 c7] rfl rfl 117 _ q7.blk (by kernel_rfl) (by rfl) (all_oneCell_toArray (by simp [Value.oneCell'])) ?_
      have qz := GotV.store q7 #[.slice none 0 0, .slice A0 n0 c0, .slice A1 n1 c1, .slice A2 n2 c2, .slice A3 n3 c3, .slice A4 n4 c4, .slice A5 n5 c5, .slice Ad nd cd, .slice A6 n6 c6, .slice A7 n7 c7]
      try dsimp only
      refine hK.out _ _ ?_ (fun hHeld => ?_)
      · exact ALL.out _ qz.below
      clear hK K
      try simp only [Act.put, List.setIfInBounds_toArray, List.set_cons_zero, List.set_cons_succ]
      refine wpAnyH_done (by kernel_rfl) ?_ _
      exact HK.out _ _ rfl rfl ⟨rfl, rfl⟩ qz
  · go_simp
    have qv := Got.var q 117 #[.slice none 0 0, .slice none 0 0, .slice none 0 0, .slice none 0 0, .slice none 0 0, .slice none 0 0, .slice none 0 0, .slice none 0 0, .slice none 0 0, .slice none 0 0]
    try dsimp only
    refine hK.out _ _ ?_ (fun hHeld => ?_)
    · exact ALL.out _ qv.below
    clear hK K
    try simp only [Act.put, List.setIfInBounds_toArray, List.set_cons_zero, List.set_cons_succ]
    refine wpAnyH_ready (rs := [2]) (by kernel_rfl) (by simp) ?_
    refine AllReadyH.cons (o := ⟨some 8, _, _, _, _, _⟩) rfl (fun K hK => ?_) AllReadyH.nil
    go_simp
    refine (N1.out _ qv.below).mono ?_
    rintro e w0 ⟨A0, n0, c0, rfl, -, hr0, hb0⟩
    have q0 := qv.step hr0 hb0
    try dsimp only
    refine hK.out _ _ ?_ (fun hHeld => ?_)
    · exact ALL.out _ q0.below
    clear hK K
    try simp only [Act.put, List.setIfInBounds_toArray, List.set_cons_zero, List.set_cons_succ]
    refine wpAnyH_ready (rs := [5]) (by kernel_rfl) (by simp) ?_
    refine AllReadyH.cons (o := ⟨some 11, _, _, _, _, _⟩) rfl (fun K hK => ?_) AllReadyH.nil
    go_simp
    refine (N2.out _ q0.below).mono ?_
    rintro e w1 ⟨A1, n1, c1, rfl, -, hr1, hb1⟩
    have q1 := q0.step hr1 hb1
    try dsimp only
    refine hK.out _ _ ?_ (fun hHeld => ?_)
    · exact ALL.out _ q1.below
    clear hK K
    try simp only [Act.put, List.setIfInBounds_toArray, List.set_cons_zero, List.set_cons_succ]
    refine wpAnyH_ready (rs := [8]) (by kernel_rfl) (by simp) ?_
    refine AllReadyH.cons (o := ⟨some 14, _, _, _, _, _⟩) rfl (fun K hK => ?_) AllReadyH.nil
    go_simp
    refine (N3.out _ q1.below).mono ?_
    rintro e w2 ⟨A2, n2, c2, rfl, -, hr2, hb2⟩
    have q2 := q1.step hr2 hb2
    try dsimp only
    refine hK.out _ _ ?_ (fun hHeld => ?_)
    · exact ALL.out _ q2.below
    clear hK K
    try simp only [Act.put, List.setIfInBounds_toArray, List.set_cons_zero, List.set_cons_succ]
    refine wpAnyH_ready (rs := [11]) (by kernel_rfl) (by simp) ?_
    refine AllReadyH.cons (o := ⟨some 17, _, _, _, _, _⟩) rfl (fun K hK => ?_) AllReadyH.nil
    go_simp
    refine (N4.out _ q2.below).mono ?_
    rintro e w3 ⟨A3, n3, c3, rfl, -, hr3, hb3⟩
    have q3 := q2.step hr3 hb3
    try dsimp only
    refine hK.out _ _ ?_ (fun hHeld => ?_)
    · exact ALL.out _ q3.below
    clear hK K
    try simp only [Act.put, List.setIfInBounds_toArray, List.set_cons_zero, List.set_cons_succ]
    refine wpAnyH_ready (rs := [14]) (by kernel_rfl) (by simp) ?_
    refine AllReadyH.cons (o := ⟨some 20, _, _, _, _, _⟩) rfl (fun K hK => ?_) AllReadyH.nil
    go_simp
    refine (N5.out _ q3.below).mono ?_
    rintro e w4 ⟨A4, n4, c4, rfl, -, hr4, hb4⟩
    have q4 := q3.step hr4 hb4
    try dsimp only
    refine hK.out _ _ ?_ (fun hHeld => ?_)
    · exact ALL.out _ q4.below
    clear hK K
    try simp only [Act.put, List.setIfInBounds_toArray, List.set_cons_zero, List.set_cons_succ]
    refine wpAnyH_ready (rs := [17]) (by kernel_rfl) (by simp) ?_
    refine AllReadyH.cons (o := ⟨some 23, _, _, _, _, _⟩) rfl (fun K hK => ?_) AllReadyH.nil
    go_simp
    refine (NI.out _ q4.below).mono ?_
    rintro e w5 ⟨A5, n5, c5, rfl, -, hr5, hb5⟩
    have q5 := q4.step hr5 hb5
    try dsimp only
    refine hK.out _ _ ?_ (fun hHeld => ?_)
    · exact ALL.out _ q5.below
    clear hK K
    try simp only [Act.put, List.setIfInBounds_toArray, List.set_cons_zero, List.set_cons_succ]
    refine wpAnyH_ready (rs := [22]) (by kernel_rfl) (by simp) ?_
    refine AllReadyH.cons (o := ⟨some 28, _, _, _, _, _⟩) rfl (fun K hK => ?_) AllReadyH.nil
    go_simp
    refine (NS.out _ q5.below).mono ?_
    rintro e w6 ⟨A6, n6, c6, rfl, -, hr6, hb6⟩
    have q6 := q5.step hr6 hb6
    try dsimp only
    refine hK.out _ _ ?_ (fun hHeld => ?_)
    · exact ALL.out _ q6.below
    clear hK K
    try simp only [Act.put, List.setIfInBounds_toArray, List.set_cons_zero, List.set_cons_succ]
    refine wpAnyH_ready (rs := [25]) (by kernel_rfl) (by simp) ?_
    refine AllReadyH.cons (o := ⟨some 31, _, _, _, _, _⟩) rfl (fun K hK => ?_) AllReadyH.nil
    go_simp
    refine (NL.out _ q6.below).mono ?_
    rintro e w7 ⟨A7, n7, c7, rfl, -, hr7, hb7⟩
    have q7 := q6.step hr7 hb7
    try dsimp only
    refine hK.out _ _ ?_ (fun hHeld => ?_)
    · exact ALL.out _ q7.below
    clear hK K
    try simp only [Act.put, List.setIfInBounds_toArray, List.set_cons_zero, List.set_cons_succ]
    refine wpAnyH_take (i := 26) (oi := ⟨some 32, _, _, _, _, _⟩) (v := ?_) rfl (by kernel_rfl) (by kernel_rfl) (by kernel_rfl) (fun _ _ _ h => h) (Or.inl ⟨by rfl, ?_⟩) (by assumption) ?_
    rotate_left
    · intro w hSw; (try dsimp only at hSw); go_simp; try (with_reducible rfl)
    rotate_left 0
    try simp only [Act.put, List.setIfInBounds_toArray, List.set_cons_zero, List.set_cons_succ]
    refine wpAnyH_ready (rs := [28]) (by kernel_rfl) (by simp) ?_
    refine AllReadyH.cons rfl (fun K hK => ?_) AllReadyH.nil
    rw [if_pos (by rfl)]
    refine wp_store_row 117 _ _ rfl _ #[.slice none 0 0, .slice A0 n0 c0, .slice A1 n1 c1, .slice A2 n2 c2, .slice A3 n3 c3, .slice A4 n4 c4, .slice A5 n5 c5, .slice Ad nd cd, .slice A6 n6 c6, .slice A7 n7 c7] rfl rfl 117 _ q7.blk (by kernel_rfl) (by rfl) (all_oneCell_toArray (by simp [Value.oneCell'])) ?_
    have qz := GotV.store q7 #[.slice none 0 0, .slice A0 n0 c0, .slice A1 n1 c1, .slice A2 n2 c2, .slice A3 n3 c3, .slice A4 n4 c4, .slice A5 n5 c5, .slice Ad nd cd, .slice A6 n6 c6, .slice A7 n7 c7]
    try dsimp only
    refine hK.out _ _ ?_ (fun hHeld => ?_)
    · exact ALL.out _ qz.below
    clear hK K
    try simp only [Act.put, List.setIfInBounds_toArray, List.set_cons_zero, List.set_cons_succ]
    refine wpAnyH_done (by kernel_rfl) ?_ _
    exact HK.out _ _ rfl rfl ⟨rfl, rfl⟩ qz
end Go.Proofs.YtkbdkeclbokhdaaDoor
