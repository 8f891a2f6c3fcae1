/-
  sum.length, sum.For, sum.Leaf, sum.Node: for whatever parts and purpose, in whatever memory in which the tables read as they are laid.
-/
import Derived.Test.YtkbdkeclbokhdaaDoorQ10
import Derived.Test.YtkbdkeclbokhdaaDoorQ9
import Derived.Deep.AppendLies
import Derived.Outline
import Derived.Test.YtkbdkeclbokhdaaDoorOfT
namespace Go.Proofs.YtkbdkeclbokhdaaDoor
open Go Go.RowKit Go.Shelf

/-- Four bytes of a length; what a purpose's sum is summed over. -/
def len4 (n : Nat) : List UInt8 := [UInt8.ofNat (n / 16777216), UInt8.ofNat (n / 65536), UInt8.ofNat (n / 256), UInt8.ofNat n]
def len4f (n i : Nat) : UInt8 := (len4 n).getD i 0
def forParts (p : List UInt8) (ps : List (List UInt8)) : List (List UInt8) := [p, [0]] ++ ps.flatMap fun q => [len4 q.length, q]
def forBytes (p : List UInt8) (ps : List (List UInt8)) : List UInt8 := p ++ 0 :: ps.flatMap fun q => len4 q.length ++ q
theorem forParts_flat (p : List UInt8) (ps : List (List UInt8)) : (forParts p ps).flatten = forBytes p ps := by
  unfold forParts forBytes
  simp only [List.flatten_append, List.flatten_cons, List.flatten_nil, List.append_nil, List.append_assoc]
  congr 1
  show [0] ++ _ = _
  rw [List.singleton_append]
  congr 1
  induction ps with
  | nil => rfl
  | cons q ps ih => simp only [List.flatMap_cons, List.flatten_append, ih, List.flatten_cons, List.flatten_nil, List.append_nil, List.append_assoc]
theorem forParts_length (p : List UInt8) (ps : List (List UInt8)) : (forParts p ps).length = 2 + 2 * ps.length := by
  unfold forParts
  rw [List.length_append]
  have : (ps.flatMap fun q => [len4 q.length, q]).length = 2 * ps.length := by
    induction ps with
    | nil => rfl
    | cons q ps ih => simp [List.flatMap_cons, ih]; omega
  rw [this]; rfl
theorem forParts_snoc (p : List UInt8) (ps : List (List UInt8)) (k : Nat) (h : k < ps.length) : forParts p (ps.take (k + 1)) = forParts p (ps.take k) ++ [len4 (ps.getD k []).length, ps.getD k []] := by
  unfold forParts
  rw [List.take_succ_eq_append_getElem h, List.flatMap_append, List.getD_eq_getElem?_getD, List.getElem?_eq_getElem h]
  simp

set_option maxHeartbeats 400000 in
theorem length_any (n : Nat) (_hn : n ≤ 140737488351232) (w : World) :
    Calls Tryd.prog 69 #[.int .i64 (n : Int)] w fun e w' => e = .returned (.slice (some ⟨w.heap.size, 0, none⟩) 4 4) ∧ w.alloc (.cells (arr 4 fun i => bv (len4f n i)) 5) = w' := by
  have he : (arr 4 fun i => bv (len4f n i)) = #[bv (UInt8.ofNat (n / 16777216)), bv (UInt8.ofNat (n / 65536)), bv (UInt8.ofNat (n / 256)), bv (UInt8.ofNat n)] := by rw [arr_list]; rfl
  have e1 : IntKind.u8.wrap ((n : Int) / 16777216) = ((UInt8.ofNat (n / 16777216)).toNat : Int) := by rw [IntKind.wrap_u8']; simp
  have e2 : IntKind.u8.wrap ((n : Int) / 65536) = ((UInt8.ofNat (n / 65536)).toNat : Int) := by rw [IntKind.wrap_u8']; simp
  have e3 : IntKind.u8.wrap ((n : Int) / 256) = ((UInt8.ofNat (n / 256)).toNat : Int) := by rw [IntKind.wrap_u8']; simp
  have e4 : IntKind.u8.wrap (n : Int) = ((UInt8.ofNat n).toNat : Int) := by rw [IntKind.wrap_u8']; simp
  rw [he]
  unfold bv
  clear he
  go_enter Tryd.func69, Tryd.ntmps69
  go_wp2
  go_ret
  exact ⟨rfl, rfl⟩
section
variable {P : Program} {ops : Array Oper} {rest : List Oper} {o : Oper} {a : Act} {w : World} {Q : Exit → Act → World → Prop}
end
/-- Slices that read as parts, in blocks other than the row's own. -/
def Parts (W : World) (v : Value) (xs : List Value) (qs : List (List UInt8)) : Prop :=
  xs.length = qs.length ∧ ∀ i, i < qs.length → RdB W (fun b => b < W.heap.size ∧ v.ownBlock ≠ some b) (xs.getD i undef) (qs.getD i [])
theorem Parts.kept {W W' : World} {v v' : Value} {xs : List Value} {qs : List (List UInt8)} (h : Parts W v xs qs) (hs : W.heap.size ≤ W'.heap.size) (hk : ∀ b, b < W.heap.size → v.ownBlock ≠ some b → W'.heap[b]? = W.heap[b]?)
    (hv : ∀ b, b < W.heap.size → v.ownBlock ≠ some b → v'.ownBlock ≠ some b) : Parts W' v' xs qs :=
  ⟨h.1, fun i hi => ((h.2 i hi).mono' (fun a x ha hx => by
    rw [World.cell?_of_block (hk a.block ha.1 ha.2)]; exact hx)).mono fun b hb => ⟨Nat.lt_of_lt_of_le hb.1 hs, hv b hb.1 hb.2⟩⟩
theorem Parts.snoc {W : World} {v : Value} {xs ys : List Value} {qs rs : List (List UInt8)} (h : Parts W v xs qs) (k : Parts W v ys rs) : Parts W v (xs ++ ys) (qs ++ rs) := by
  refine ⟨by rw [List.length_append, List.length_append, h.1, k.1], fun i hi => ?_⟩
  rw [List.length_append] at hi
  by_cases hl : i < qs.length
  · rw [List.getD_eq_getElem?_getD, List.getD_eq_getElem?_getD, List.getElem?_append_left (by rw [h.1]; exact hl), List.getElem?_append_left hl, ← List.getD_eq_getElem?_getD, ← List.getD_eq_getElem?_getD]
    exact h.2 i hl
  · rw [List.getD_eq_getElem?_getD, List.getD_eq_getElem?_getD, List.getElem?_append_right (by rw [h.1]; omega), List.getElem?_append_right (by omega), h.1, ← List.getD_eq_getElem?_getD, ← List.getD_eq_getElem?_getD]
    exact k.2 _ (by omega)
theorem Parts.two {W : World} {v a b : Value} {q r : List UInt8} (h0 : RdB W (fun b => b < W.heap.size ∧ v.ownBlock ≠ some b) a q) (h1 : RdB W (fun b => b < W.heap.size ∧ v.ownBlock ≠ some b) b r) : Parts W v [a, b] [q, r] :=
  ⟨rfl, fun i hi => by
    have : i = 0 ∨ i = 1 := by simp at hi; omega
    rcases this with rfl | rfl
    · exact h0
    · exact h1⟩
theorem rdP_of_parts {W : World} {base g n cap e : Nat} {xs : List Value} {qs : List (List UInt8)} (ho : W.ownsRow base e 1 (.slice (some ⟨g, 0, none⟩) n cap) n xs) (h : Parts W (.slice (some ⟨g, 0, none⟩) n cap) xs qs) : RdP W (fun b => b < W.heap.size) (some ⟨g, 0, none⟩) qs := fun k hk => by
  refine ⟨_, xs.getD k undef, rfl, (ho.lt g rfl).2, ho.cells (g := g) rfl k _ ?_, (h.2 k hk).mono fun b hb => hb.1⟩
  have : k < xs.length := by rw [h.1]; exact hk
  rw [List.getElem?_eq_getElem this, List.getD_eq_getElem?_getD, List.getElem?_eq_getElem this]
  rfl
theorem info_bytes : (Tryd.prog.info? 42).map (fun i => (i.zero, i.size, i.bytes)) = some (some (.slice none 0 0), 1, 24) := by kernel_rfl

theorem news_blk {W : World} {g t : Nat} {xs : List Value} (h : Blk W g t xs.toArray) : ∀ (j : Nat) (u : Value), xs[j]? = some u → W.cell? ((⟨g, 0, none⟩ : Addr).add j) = some u := fun j u hu => by
  rw [add_zero_block, h.cell]; simpa using hu
theorem one_two_slices (A B : Option Addr) (a b c d : Nat) : ∀ u ∈ [Value.slice A a b, Value.slice B c d], u.oneCell' = true := fun u hu => by
  simp at hu
  rcases hu with rfl | rfl <;> rfl
/-- What stands between two parts. -/
def ForR (w : World) (p : List UInt8) (ps : List (List UInt8)) (k : Nat) (v : Value) (wr : World) : Prop :=
  ∃ g cap xs, v = .slice (some ⟨g, 0, none⟩) (2 + 2 * k) cap ∧ wr.ownsRow (w.heap.size + 1) 42 1 v (2 + 2 * k) xs ∧ Parts wr v xs (forParts p (ps.take k)) ∧ Blk wr w.heap.size 37 (arr 32 fun _ => bv 0) ∧ Below w.heap.size w wr
/-- Two parts more: new blocks, and the row. -/
theorem ForR.step {w wr w2 W : World} {v : Value} {g cap k cap0 : Nat} {xs : List Value} {qs rs : List (List UInt8)} {a b : Value}
    (hown : wr.ownsRow (w.heap.size + 1) 42 1 v k xs) (hP : Parts wr v xs qs) (hR : Blk wr w.heap.size 37 (arr 32 fun _ => bv 0)) (hb : Below w.heap.size w wr)
    (hg : wr.grownBy W none) (h2 : W.grownBy w2 v.ownBlock) (hat : v.ownBlock = some g ∨ g = W.heap.size) (ha : Parts W v [a, b] rs) :
    Parts w2 (.slice (some ⟨g, 0, none⟩) cap0 cap) (xs ++ [a, b]) (qs ++ rs) ∧ Blk w2 w.heap.size 37 (arr 32 fun _ => bv 0) ∧ Below w.heap.size w w2 := by
  have hz := hg.size
  have hvw : v.ownBlock ≠ some w.heap.size := fun e => by have := (hown.lt _ e).1; omega
  refine ⟨?_, (hR.grown hg (by simp)).grown h2 (fun e => hvw e.symm), (hb.grown hg hb.size (fun x hx => by cases hx)).grown h2 (Nat.le_trans hb.size hz) (fun x hx => by have := (hown.lt x hx).1; omega)⟩
  have hPW : Parts W v xs qs := hP.kept hz (fun b hb hn => hg.block b hb (by simp)) (fun b hb hn => hn)
  refine (hPW.snoc ha).kept h2.size (fun b hb hn => h2.block b hb (fun e => hn e.symm)) (fun b hb hn e => ?_)
  simp only [Value.ownBlock, Option.some.injEq] at e
  rcases hat with h | h
  · exact hn (by rw [h, e])
  · omega

set_option maxRecDepth 100000 in
set_option maxHeartbeats 1000000 in
theorem for_any (p : List UInt8) (hp : p.length ≤ 1099511627776) (Ap : Option Addr) (cp : Nat) (ps : List (List UInt8)) (hn : ps.length ≤ 1048576) (hL : (forBytes p ps).length < 1152921504606846976) (w : World) (hT : Tables w) (hr : RdP w (fun b => b < w.heap.size) Ap ps) :
    Calls Tryd.prog 58 #[.string ⟨p.toArray⟩, .slice Ap ps.length cp] w fun e w' => e = .returned (shaV (forBytes p ps)) ∧ Below w.heap.size w w' := by
  have HT := Lib.hid hT
  have HR := Lib.hid hr
  obtain ⟨n, hnn⟩ : ∃ n, ps.length = n := ⟨_, rfl⟩
  rw [hnn] at hn ⊢
  have HN := Lib.hid hnn
  clear hT hr hnn
  obtain ⟨i0, hi, hz0, hz1, hz2⟩ := info_parts info_bytes
  have hmk : ∀ W : World, (Instr.makeSlice 57 (.int .i64 0) (.int .i64 (2 + 2 * (n : Int)))).run Tryd.prog W = .ok (.slice (some ⟨W.heap.size, 0, none⟩) 0 (2 + 2 * n)) (W.alloc (.cells (madeCells (Value.slice none 0 0).cells (2 + 2 * n)) 42)) := fun W => by
    have h := run_make (P := Tryd.prog) W 57 42 i0 (.slice none 0 0) Tryd.underlying57 hi hz0 .i64 .i64 0 (2 + 2 * n) (by omega) (by omega) (by rw [hz2]; omega) (by omega)
    rw [h, hz1, Nat.mul_one, show (2 + 2 * (n : Int)).toNat = 2 + 2 * n from by omega]
    rfl
  have HI := Lib.hid (And.intro hi (And.intro hz0 (And.intro hz1 hz2)))
  clear hi hz0 hz1 hz2
  go_enter Tryd.func58, Tryd.ntmps58
  have hZ32 : Array.replicate 32 (bv 0) = arr 32 fun _ => bv 0 := by rw [← upto_none 32 (fun _ => bv 0) (bv 0)]; exact arr_congr fun i _ => by simp
  go_wp2_with fail
  obtain ⟨W0, hW0⟩ : ∃ W0, w.alloc (Obj.cells (Array.replicate 32 (bv 0)) 37) = W0 := ⟨_, rfl⟩
  have r0 : Blk W0 w.heap.size 37 (arr 32 fun _ => bv 0) := by rw [← hW0]; exact Blk.newAt _ _ rfl hZ32
  have s0 : W0.heap.size = w.heap.size + 1 := by rw [← hW0]; simp
  have b0 : Below w.heap.size w W0 := by rw [← hW0]; exact (Below.refl _ _).alloc (Nat.le_refl _) _
  generalize hW2 : (World.alloc (World.alloc w _) _) = W2
  have hW2' : W0.alloc (Obj.cells (madeCells (Value.slice none 0 0).cells (2 + 2 * n)) 42) = W2 := by rw [← hW0, ← hW2]; rfl
  clear hW0 hW2 hmk hZ32
  have o2 : W2.ownsRow (w.heap.size + 1) 42 1 (.slice (some ⟨w.heap.size + 1, 0, none⟩) 0 (2 + 2 * n)) 0 [] := by
    have := World.ownsRow_made (base := w.heap.size + 1) (e := 42) (size := 1) W0 (madeCells (Value.slice none 0 0).cells (2 + 2 * n)) (2 + 2 * n) (by omega) (by unfold maxLen; omega) (by simp [size_madeCells])
    rwa [hW2', s0] at this
  have r2 : Blk W2 w.heap.size 37 (arr 32 fun _ => bv 0) := by rw [← hW2']; exact r0.alloc _
  have b2 : Below w.heap.size w W2 := by rw [← hW2']; exact b0.alloc (by omega) _
  have s2 : W2.heap.size = w.heap.size + 2 := by rw [← hW2']; simp [s0]
  clear hW2' r0 b0 s0
  obtain ⟨v1, w1, hcv, hown1, hb1⟩ := run_bytes_of p hp W2
  have o1 := o2.kept (only_of_below hb1 none) (by simp [Value.ownBlock])
  have q1 := hown1.rd (by omega)
  obtain ⟨g1, cap1, rfl, hg1, hg1', hcap1, _⟩ := hown1
  have z1 := hb1.size
  have r1 := r2.below hb1 (by omega)
  have b1 : Below w.heap.size w w1 := b2.trans (hb1.mono (by omega))
  have HO := Lib.hid o1
  have HQ := Lib.hid q1
  have HR1 := Lib.hid r1
  have HBB := Lib.hid b1
  have HS := Lib.hid (And.intro s2 z1)
  obtain ⟨pl, hpl⟩ : ∃ pl, p.length = pl := ⟨_, rfl⟩
  rw [hpl] at HQ hcv hp
  clear o1 q1 r1 b1 o2 r2 b2 hb1 hg1 hg1' hcap1 hpl s2 z1
  rw [hcv]
  clear hcv
  go_simp
  go_wp2_with (first
    | (at_builtin; refine wpList_append_lies _ rfl (.tmp 13) (.tmp 17) 57 rfl (w.heap.size + 1) 42 i0 (.slice none 0 0) 1 24 Tryd.underlying57 HI.out.1 HI.out.2.1 HI.out.2.2.1 HI.out.2.2.2 rfl (by omega) (.slice (some ⟨w.heap.size + 1, 0, none⟩) 0 (2 + 2 * n)) 0 [] rfl ((HO.out.alloc _).alloc _) ⟨w1.heap.size + 1, 0, none⟩ 2 2 [.slice (some ⟨g1, 0, none⟩) pl cap1, .slice (some ⟨w1.heap.size, 0, none⟩) 1 1] rfl rfl (news_blk (Blk.newAt _ _ (by simp) rfl)) (one_two_slices _ _ _ _ _ _) (by omega) (by unfold maxLen; omega) (by omega) (by have := HS.out; simp; omega) (w1.heap.size + 2) (by simp) ?_; intro g cap w2 hown2 hgr2 hat2 hlt2))
  simp only [Nat.zero_add, List.nil_append] at hown2
  have hs := HS.out
  obtain ⟨W3, hW3⟩ : ∃ W3, (w1.alloc (Obj.cells #[Value.int IntKind.u8 0] 5)).alloc (Obj.cells #[Value.slice (some ⟨g1, 0, none⟩) pl cap1, Value.slice (some ⟨w1.heap.size, 0, none⟩) 1 1] 42) = W3 := ⟨_, rfl⟩
  have z3 : W3.heap.size = w1.heap.size + 2 := by rw [← hW3]; simp
  have k3 : w1.grownBy W3 none := by rw [← hW3]; exact (World.grownBy_alloc w1 _ none).trans (World.grownBy_alloc _ _ none)
  have c3 : Blk W3 w1.heap.size 5 (arr 1 fun _ => bv 0) := by rw [← hW3]; exact (Blk.newAt w1 _ rfl (by rw [arr_list]; rfl)).alloc _
  rw [hW3] at hgr2
  clear hW3
  have d1 : RdB W3 (fun b => b < W3.heap.size ∧ (Value.slice (some ⟨w.heap.size + 1, 0, none⟩) 0 (2 + 2 * n)).ownBlock ≠ some b) (.slice (some ⟨g1, 0, none⟩) pl cap1) p :=
    (HQ.out.kept fun a x ha h => (World.cell?_of_block (k3.block a.block ha.2 (by simp))).trans h).mono fun b hb => ⟨by omega, by simp [Value.ownBlock]; omega⟩
  have d2 : RdB W3 (fun b => b < W3.heap.size ∧ (Value.slice (some ⟨w.heap.size + 1, 0, none⟩) 0 (2 + 2 * n)).ownBlock ≠ some b) (.slice (some ⟨w1.heap.size, 0, none⟩) 1 1) [0] :=
    rdB_blk c3 (fun i hi => by
      obtain rfl : i = 0 := (by omega)
      rfl) rfl (by omega) (by omega) (by omega) ⟨by omega, by simp [Value.ownBlock]; omega⟩
  have q2 := ForR.step (w := w) (wr := w1) (w2 := w2) (v := .slice (some ⟨w.heap.size + 1, 0, none⟩) 0 (2 + 2 * n)) (g := g) (cap := cap) (cap0 := 2) (qs := []) (rs := [p, [0]]) HO.out ⟨rfl, fun i hi => by simp at hi⟩ HR1.out HBB.out k3 hgr2 (by rw [z3]; exact hat2) (Parts.two d1 d2)
  have hR0 : ForR w p ps 0 (.slice (some ⟨g, 0, none⟩) 2 cap) w2 := ⟨g, cap, _, rfl, hown2, by simpa [forParts] using q2.1, q2.2.1, q2.2.2⟩
  clear q2 hown2 hgr2 hat2 hlt2 hs HO HQ HR1 HBB HS d1 d2 c3 k3 z3
  go_loopw [5, 21] (fun v i wr => ∃ k : Nat, k ≤ n ∧ i = .int .i64 (k : Int) ∧ ForR w p ps k v wr) (fun _ i _ => n - (intOf i).toNat)
  case atStart => exact ⟨0, by omega, rfl, hR0⟩
  case round =>
    clear hR0
    obtain ⟨k, hk, rfl, gk, ck, xs, rfl, hown, hP, hR, hb⟩ := hrel
    by_cases hlt : k < n
    · obtain ⟨ad, v, rfl, hok, hcell, hread⟩ := (HR.out.kept (W' := wr) fun a x ha h => (hb.cell (p := a) ha).trans h) k (by rw [HN.out]; exact hlt)
      have hst := Lib.hid (forParts_snoc p ps k (by rw [HN.out]; exact hlt))
      obtain ⟨q, hq⟩ : ∃ q, ps.getD k [] = q := ⟨_, rfl⟩
      rw [hq] at hread hst
      clear hq
      have HRD := Lib.hid hread
      obtain ⟨A0, c0, rfl, hc0, hn0, hcs0⟩ := hread
      obtain ⟨m, hm⟩ : ∃ m, q.length = m := ⟨_, rfl⟩
      rw [hm] at hcell hc0 hn0 HRD hst
      have HM := Lib.hid hm
      have HO := Lib.hid hown
      have HP := Lib.hid hP
      have HR1 := Lib.hid hR
      have HBB := Lib.hid hb
      have hkn : (k : Int) < (n : Int) := by omega
      clear hcs0 hm hown hP hR hb hok
      go_wp2_with (first
        | (go_at_call 69; refine (length_any m hn0 _).mono ?_; rintro e w3 ⟨rfl, rfl⟩)
        | (at_builtin; refine wpList_append_lies _ rfl (.tmp 25) (.tmp 30) 57 rfl (w.heap.size + 1) 42 i0 (.slice none 0 0) 1 24 Tryd.underlying57 HI.out.1 HI.out.2.1 HI.out.2.2.1 HI.out.2.2.2 rfl (by omega) (.slice (some ⟨gk, 0, none⟩) (2 + 2 * k) ck) (2 + 2 * k) xs rfl ((HO.out.alloc _).alloc _) ⟨wr.heap.size + 1, 0, none⟩ 2 2 [.slice (some ⟨wr.heap.size, 0, none⟩) 4 4, .slice A0 m c0] rfl rfl (news_blk (Blk.newAt _ _ (by simp) rfl)) (one_two_slices _ _ _ _ _ _) (by omega) (by unfold maxLen; omega) (by omega) (by have := (HO.out.lt gk rfl).2; have := (HO.out.lt gk rfl).1; simp; omega) (wr.heap.size + 2) (by simp) ?_; intro g2 cap2 w4 hown4 hgr4 hat4 hlt4))
      obtain ⟨W3, hW3⟩ : ∃ W3, (wr.alloc (Obj.cells (arr 4 fun i => bv (len4f m i)) 5)).alloc (Obj.cells #[Value.slice (some ⟨wr.heap.size, 0, none⟩) 4 4, Value.slice A0 m c0] 42) = W3 := ⟨_, rfl⟩
      have z3 : W3.heap.size = wr.heap.size + 2 := by rw [← hW3]; simp
      have k3 : wr.grownBy W3 none := by rw [← hW3]; exact (World.grownBy_alloc wr _ none).trans (World.grownBy_alloc _ _ none)
      have c3 : Blk W3 wr.heap.size 5 (arr 4 fun i => bv (len4f m i)) := by rw [← hW3]; exact (Blk.newAt wr _ rfl rfl).alloc _
      rw [hW3] at hgr4
      clear hW3
      have hgk := HO.out.lt gk rfl
      have hwr := HBB.out.size
      have d1 : RdB W3 (fun b => b < W3.heap.size ∧ (Value.slice (some ⟨gk, 0, none⟩) (2 + 2 * k) ck).ownBlock ≠ some b) (.slice A0 m c0) q :=
        (HRD.out.kept fun a x ha h => (World.cell?_of_block (k3.block a.block (by omega) (by simp))).trans h).mono fun b hb => ⟨by omega, by simp [Value.ownBlock]; omega⟩
      have d2 : RdB W3 (fun b => b < W3.heap.size ∧ (Value.slice (some ⟨gk, 0, none⟩) (2 + 2 * k) ck).ownBlock ≠ some b) (.slice (some ⟨wr.heap.size, 0, none⟩) 4 4) (len4 m) :=
        rdB_blk c3 (fun i hi => rfl) rfl (by omega) (by omega) (by omega) ⟨by omega, by simp [Value.ownBlock]; omega⟩
      have q4 := ForR.step (w := w) (wr := wr) (w2 := w4) (g := g2) (cap := cap2) (cap0 := 2 + 2 * k + 2) HO.out HP.out HR1.out HBB.out k3 hgr4 (by rw [z3]; exact hat4) (Parts.two d2 d1)
      have hR1 : ForR w p ps (k + 1) (.slice (some ⟨g2, 0, none⟩) (2 + 2 * k + 2) cap2) w4 := ⟨g2, cap2, _, by rw [show 2 + 2 * (k + 1) = 2 + 2 * k + 2 from by omega], by rw [show 2 + 2 * (k + 1) = 2 + 2 * k + 2 from by omega]; exact hown4, by rw [hst.out]; exact q4.1, q4.2.1, q4.2.2⟩
      have HR2 := Lib.hid hR1
      clear q4 d1 d2 c3 k3 z3 hgk hwr hown4 hgr4 hat4 hlt4 hR1
      go_wp2
      go_roundw
      case rel => exact ⟨k + 1, by omega, by go_num, HR2.out⟩
      case measure => simp [intOf]; omega
    · obtain rfl : k = n := by omega
      rw [show ps.take k = ps from by rw [← HN.out]; simp] at hP
      have hrp := rdP_of_parts hown hP
      have hT2 := HT.out.below hb
      have hsz := hb.size
      have HOF := Lib.hid (callsIn_wide.1 (of_any (some ⟨gk, 0, none⟩) ck (forParts p ps) (by rw [forParts_length, HN.out]; omega) (by rw [forParts_flat]; exact hL) wr hT2 hrp))
      rw [forParts_length, HN.out, forParts_flat] at HOF
      have HR1 := Lib.hid hR
      have HBB := Lib.hid hb
      clear hown hP hR hb hrp hT2 HR HT
      have hkk : ¬ ((k : Int) < (k : Int)) := by omega
      go_wp2_with (first
        | (go_at_call 70; refine HOF.out.mono ?_; rintro e w3 ⟨rfl, hb3⟩; have hR3 := HR1.out.below hb3 HR1.out.lt)
        | (refine wpList_store_row rfl 37 _ _ rfl w.heap.size (arr 32 fun i => bv (sha (forBytes p ps) i)) rfl rfl 37 _ hR3 (by rw [arr_size]; kernel_rfl) (by rw [arr_size, arr_size]) (arr_all_bv _ _) ?_))
      refine bodyPost_ret (v := shaV (forBytes p ps)) (results_cell_row (p := 4) (ty := 37) rfl _ _ w.heap.size 37 _ (0, 0) _ rfl (hR3.setRow _) Tryd.underlying37 rfl (by rw [arr_size]; kernel_rfl)) rfl ⟨rfl, below_setRow (HBB.out.trans (hb3.mono hsz)) (Nat.le_refl _) _⟩
end Go.Proofs.YtkbdkeclbokhdaaDoor
