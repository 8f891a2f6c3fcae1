/-
  proof's CheckInclusion: of any leaf, place, size, path and root, in whatever memory in which the tables lie. No condition.
-/
import Derived.Test.YtphknicdllcbmaaDoorPrfWay
import Derived.Test.YtphknicdllcbmaaDoorTreeGo
import Derived.Test.YtphknicdllcbmaaDoorPartBase
namespace Go.Proofs.YtphknicdllcbmaaDoor
open Go Go.RowKit Go.Shelf TreeM

/-- To what a path leads. -/
def leadP (a : Nat) : List Pt → List D → D → D
  | p :: ps, x :: xs, t => leadP a ps xs (if p.1 > a then node t x else node x t)
  | _, _, t => t
theorem leadP_step {a k : Nat} {way : List Pt} {path : List D} (h1 : k < way.length) (h2 : k < path.length) (t : D) : leadP a (way.drop k) (path.drop k) t = leadP a (way.drop (k + 1)) (path.drop (k + 1)) (if (way.getD k (0, 0)).1 > a then node t (path.getD k dz) else node (path.getD k dz) t) := by
  rw [List.drop_eq_getElem_cons h1, List.drop_eq_getElem_cons h2, leadP, List.getD_eq_getElem?_getD, List.getElem?_eq_getElem h1, List.getD_eq_getElem?_getD, List.getElem?_eq_getElem h2]
  rfl
theorem leadP_end {a : Nat} {way : List Pt} {path : List D} {k : Nat} (h : way.length ≤ k) (t : D) : leadP a (way.drop k) (path.drop k) t = t := by
  rw [List.drop_eq_nil_of_le h]
  cases path.drop k <;> rfl
/-- CheckInclusion's answer. -/
def cincV (leaf : D) (a size : Int) (path : List D) (root : D) : Int :=
  if a < 0 ∨ size ≤ a ∨ 1099511627776 < size then 1
  else if path.length ≠ (wayP a.toNat 0 size.toNat).length then 60
  else if (id32 (leadP a.toNat (wayP a.toNat 0 size.toNat).reverse path leaf) == id32 root) = true then 0 else 60
section
variable {P : Program} {ops : Array Oper} {rest : List Oper} {o : Oper} {a : Act} {w : World} {Q : Exit → Act → World → Prop}
set_option maxRecDepth 100000 in
theorem wpList_load_run (hgd : o.guard = none) (ty : TypeId) (x : Operand) (ho : o.op = .load ty x) (p v : Value) (hx : a.eval x = p) (hl : (Instr.loadAt ty p).run P w = .ok v w)
    (h : wpList P ops Q rest (a.put o.dst v) w) : wpList P ops Q (o :: rest) a w :=
  wpList_plain hgd fun _ hK => oper_load ty x ho p v hx hl (hK _ _ h)
end
set_option maxRecDepth 100000 in
/-- A part of a slice of parts. -/
theorem load_rd {w : World} {G n c k : Nat} {L : List Pt} (h : RdPt w (.slice (some ⟨G, 0, none⟩) n c) L) (hk : k < n) :
    (Instr.loadAt 75 (.pointer (some ⟨G, k * 2, none⟩))).run Tryd.prog w = .ok (.agg (ptc (L.getD k (0, 0)))) w := by
  obtain ⟨A', c', hv, h1, h2⟩ := h
  injection hv with e1 e2 e3
  subst e2
  obtain ⟨g, hg, hc⟩ := h2 (by omega)
  rw [← e1] at hg
  injection hg with hg
  injection hg with hg
  subst hg
  obtain ⟨c0, c1⟩ := hc k hk
  have := run_loadAt_mid (P := Tryd.prog) w G (k * 2) 75 (ptc (L.getD k (0, 0))).toList _ (fun j v hv => by
    have hj : j < 2 := (List.getElem?_eq_some_iff.1 hv).1
    have hj2 : j = 0 ∨ j = 1 := by omega
    rcases hj2 with rfl | rfl
    · rw [show k * 2 + 0 = 2 * k from by omega, c0, ← hv]; rfl
    · rw [show k * 2 + 1 = 2 * k + 1 from by omega, c1, ← hv]; rfl) Tryd.underlying75 rfl (by kernel_rfl)
  rw [Array.toArray_toList] at this
  exact this
set_option maxRecDepth 100000 in
theorem load_blk {w : World} {g : Nat} {f : D} (h : Blk w g 30 (arr 32 fun i => bv (f i))) : (Instr.loadAt 30 (.pointer (some ⟨g, 0, none⟩))).run Tryd.prog w = .ok (.agg (arr 32 fun i => bv (f i))) w :=
  run_loadAt_cells 30 ⟨g, 0, none⟩ 32 (fun i => bv (f i)) 5 w (fun i hi => by rw [add_zero_block, h.cell, arr_get, if_pos hi]) Tryd.underlying30 (by kernel_rfl)
set_option maxRecDepth 100000 in
theorem load_rdi {w : World} {ok : Nat → Prop} {ad : Addr} {n c k : Nat} {l : List D} (h : RdI w ok (.slice (some ad) n c) l) (hk : k < n) : (Instr.loadAt 30 (.pointer (some (ad.add (k * 32))))).run Tryd.prog w = .ok (.agg (arr 32 fun i => bv (l.getD k dz i))) w := by
  obtain ⟨ad', e, _, hc⟩ := h.at_ hk
  injection e with e
  subst e
  rw [Nat.mul_comm 32 k] at hc
  exact run_loadAt_cells 30 (ad.add (k * 32)) 32 (fun i => bv (l.getD k dz i)) 5 w hc Tryd.underlying30 (by kernel_rfl)
set_option maxRecDepth 100000 in
theorem RdPt.addr {w : World} {A : Option Addr} {n c : Nat} {L : List Pt} (h : RdPt w (.slice A n c) L) (hn : 0 < n) : ∃ G, A = some ⟨G, 0, none⟩ := by
  obtain ⟨A', _, hv, _, h2⟩ := id h
  injection hv with e1 e2
  obtain ⟨g, hg, _⟩ := h2 (by omega)
  exact ⟨g, e1.trans hg⟩
set_option maxRecDepth 100000 in
set_option maxHeartbeats 1000000 in
theorem cinc_range (leaf root : D) (a size : Int) (h : a < 0 ∨ size ≤ a ∨ 1099511627776 < size) (v : Value) (w : World) :
    Calls Tryd.prog 28 #[.agg (arr 32 fun i => bv (leaf i)), .int .i64 a, .int .i64 size, v, .agg (arr 32 fun i => bv (root i))] w fun e w' => e = .returned (.int .i64 1) ∧ Below w.heap.size w w' := by
  have hb0 : Below w.heap.size w ((w.alloc (.cells (arr 32 fun i => bv (leaf i)) 30)).alloc (.cells (arr 32 fun i => bv (root i)) 30)) := ((Below.refl _ _).alloc (Nat.le_refl _) _).alloc (by simp) _
  generalize (arr 32 fun i => bv (leaf i)) = x0 at *
  generalize (arr 32 fun i => bv (root i)) = x1 at *
  by_cases h0 : a < 0
  · have d0 : decide (a < 0) = true := decide_eq_true h0
    clear h
    go_enter Tryd.func28, Tryd.ntmps28
    go_wp2
    go_ret
    exact ⟨rfl, hb0⟩
  · have d0 : decide (a < 0) = false := decide_eq_false h0
    by_cases h1 : size ≤ a
    · have d1 : decide (size ≤ a) = true := decide_eq_true h1
      clear h
      go_enter Tryd.func28, Tryd.ntmps28
      go_wp2
      go_ret
      exact ⟨rfl, hb0⟩
    · have d1 : decide (size ≤ a) = false := decide_eq_false h1
      have h2 : 1099511627776 < size := by omega
      have d2 : decide (1099511627776 < size) = true := decide_eq_true h2
      clear h
      go_enter Tryd.func28, Tryd.ntmps28
      go_wp2
      go_ret
      exact ⟨rfl, hb0⟩
set_option maxRecDepth 100000 in
set_option maxHeartbeats 2000000 in
theorem cinc_in (leaf root : D) (a size : Nat) (has : a < size) (hs : size ≤ 1099511627776) (v : Value) (path : List D) (w : World) (hT : Tables w) (hr : RdI w (fun b => b < w.heap.size) v path) :
    Calls Tryd.prog 28 #[.agg (arr 32 fun i => bv (leaf i)), .int .i64 (a : Int), .int .i64 (size : Int), v, .agg (arr 32 fun i => bv (root i))] w fun e w' => e = .returned (.int .i64 (cincV leaf (a : Int) (size : Int) path root)) ∧ Below w.heap.size w w' := by
  obtain ⟨A, c, rfl, hcap, _⟩ := id hr
  obtain ⟨n, hn⟩ : ∃ n, path.length = n := ⟨_, rfl⟩
  have d0 : decide ((a : Int) < 0) = false := decide_eq_false (by omega)
  have d1 : decide ((size : Int) ≤ (a : Int)) = false := decide_eq_false (by omega)
  have d2 : decide (1099511627776 < (size : Int)) = false := decide_eq_false (by omega)
  have ha1 : (a : Int) ≤ 1099511627776 := by omega
  have hlen := wayP_length 40 a 0 size (by omega)
  obtain ⟨N, hN⟩ : ∃ N, (wayP a 0 size).length = N := ⟨_, rfl⟩
  have hV : cincV leaf (a : Int) (size : Int) path root = if n ≠ N then 60 else if (id32 (leadP a (wayP a 0 size).reverse path leaf) == id32 root) = true then 0 else 60 := by
    unfold cincV
    rw [if_neg (by omega), Int.toNat_natCast, Int.toNat_natCast, hN, hn]
  rw [hN] at hlen
  rw [hV]
  rw [hn] at hr ⊢
  have HWO : Hid (∀ W, Calls Tryd.prog 41 #[.int .i64 (a : Int), .int .i64 (size : Int)] W fun e w' => ∃ A c, e = .returned (.slice A N c) ∧ w'.ownsRow W.heap.size 75 2 (.slice A N c) N (ptCells (wayP a 0 size).reverse) ∧ Below W.heap.size W w') := Lib.hid fun W => (wayOf_any a size has hs W).mono (by
    rintro e w' ⟨v', rfl, ho, hb⟩
    rw [hN] at ho
    obtain ⟨A, c, rfl, _⟩ := own_len ho
    exact ⟨A, c, rfl, ho, hb⟩)
  have hWL : (wayP a 0 size).reverse.length = N := by rw [List.length_reverse, hN]
  obtain ⟨way, hway⟩ : ∃ way, (wayP a 0 size).reverse = way := ⟨_, rfl⟩
  rw [hway] at HWO hWL ⊢
  obtain ⟨R, hR⟩ : ∃ R, leadP a way path leaf = R := ⟨_, rfl⟩
  rw [hR]
  have hb0 : Below w.heap.size w ((w.alloc (.cells (arr 32 fun i => bv (leaf i)) 30)).alloc (.cells (arr 32 fun i => bv (root i)) 30)) := ((Below.refl _ _).alloc (Nat.le_refl _) _).alloc (by simp) _
  have h5 : Blk ((w.alloc (.cells (arr 32 fun i => bv (leaf i)) 30)).alloc (.cells (arr 32 fun i => bv (root i)) 30)) w.heap.size 30 (arr 32 fun i => bv (leaf i)) := (Blk.new w _ _).alloc _
  have h9 : Blk ((w.alloc (.cells (arr 32 fun i => bv (leaf i)) 30)).alloc (.cells (arr 32 fun i => bv (root i)) 30)) (w.heap.size + 1) 30 (arr 32 fun i => bv (root i)) := Blk.newAt _ _ (by simp) rfl
  obtain ⟨β, hβ⟩ : ∃ β, (id32 R == id32 root) = β := ⟨_, rfl⟩
  have ne := neq_id R root
  rw [hβ] at ne ⊢
  have HB0 := Lib.hid hb0
  have H5 := Lib.hid h5
  have H9 := Lib.hid h9
  have HR := Lib.hid hr
  have HT := Lib.hid hT
  have HN := Lib.hid hn
  have HWL := Lib.hid hWL
  have HRR := Lib.hid hR
  have HNE := Lib.hid ne
  clear hV hb0 h5 h9 hr hT hn hN hWL hway hR hβ ne hcap
  obtain ⟨rt, hrt⟩ : ∃ rt, (arr 32 fun i => bv (root i)) = rt := ⟨_, rfl⟩
  obtain ⟨rR, hrR⟩ : ∃ rR, (arr 32 fun i => bv (R i)) = rR := ⟨_, rfl⟩
  rw [hrt] at HB0 H5 H9 HNE ⊢
  rw [hrR] at HNE
  have HRT := Lib.hid (And.intro hrt hrR)
  clear hrt hrR
  by_cases hnN : n = N
  · subst hnN
    rw [if_neg (by simp)]
    go_enter Tryd.func28, Tryd.ntmps28
    go_wp2_with (first
      | (go_at_call 41; refine (HWO.out _).mono ?_; rintro e W1 ⟨Aw, cw, rfl, ho1, hb1⟩; have K5 := Lib.hid (H5.out.below hb1 H5.out.lt); have K9 := Lib.hid (H9.out.below hb1 H9.out.lt); have KO := Lib.hid ho1; have KB := Lib.hid (HB0.out.trans (hb1.mono HB0.out.size)); have KS : Hid (w.heap.size + 2 ≤ W1.heap.size) := Lib.hid (by have := hb1.size; simp at this; omega); clear ho1 hb1 H5 H9)
      | (refine wpList_load_arr rfl 30 _ rfl w.heap.size rfl 30 (arr 32 fun i => bv (leaf i)) _ K5.out Tryd.underlying30 rfl (by rw [arr_size]; kernel_rfl) ?_)
      | (refine wpList_store_row rfl 30 _ _ rfl W1.heap.size (arr 32 fun i => bv (leaf i)) rfl rfl 30 _ (heap_alloc_new W1 _) (by rw [arr_size]; kernel_rfl) (by rw [arr_size]; rfl) (arr_all_bv _ _) ?_; rw [World.setRow_alloc_new]))
    go_loopw [37] (fun i wr => ∃ (k : Nat) (top : D), k ≤ n ∧ i = .int .i64 (k : Int) ∧ leadP a (way.drop k) (path.drop k) top = R ∧ Blk wr W1.heap.size 30 (arr 32 fun i => bv (top i)) ∧ Below W1.heap.size W1 wr) (fun i _ => n - (intOf i).toNat)
    case atStart => exact ⟨0, leaf, Nat.zero_le _, rfl, by rw [List.drop_zero, List.drop_zero]; exact HRR.out, Blk.new W1 _ _, (Below.refl _ _).alloc (Nat.le_refl _) _⟩
    case round =>
      obtain ⟨k, top, hk, rfl, hlead, h12, hb⟩ := hrel
      by_cases hlt : k < n
      · have hkn : (k : Int) < (n : Int) := by omega
        have hk0 : (0 : Int) ≤ (k : Int) := by omega
        have hk40 : (k : Int) ≤ 40 := by omega
        have hst := leadP_step (a := a) (k := k) (way := way) (path := path) (by rw [HWL.out]; exact hlt) (by rw [HN.out]; exact hlt) top
        rw [hst] at hlead
        have hrp := rdPt_own (Turn.own (Turn.of_below hb) KO.out (fun i hi => by have := (KO.out.lt i hi).2; omega))
        obtain ⟨Gw, rfl⟩ := hrp.addr (by omega)
        have hlw := load_rd hrp hlt
        have hbw : Below w.heap.size w wr := KB.out.trans (hb.mono KB.out.size)
        have hrI := HR.out.old hbw
        obtain ⟨ad, rfl, _, _⟩ := hrI.at_ hlt
        obtain ⟨p, hp⟩ : ∃ p, way.getD k (0, 0) = p := ⟨_, rfl⟩
        obtain ⟨x, hx⟩ : ∃ x, path.getD k dz = x := ⟨_, rfl⟩
        rw [hp] at hlead hlw
        rw [hx] at hlead
        have HLP : Hid (∀ W, Below w.heap.size w W → (Instr.loadAt 30 (.pointer (some (ad.add (k * 32))))).run Tryd.prog W = .ok (.agg (arr 32 fun i => bv (x i))) W) := Lib.hid fun W hb' => by
          have := load_rdi (HR.out.old hb') hlt
          rw [hx] at this
          exact this
        have H12 := Lib.hid h12
        have HBX := Lib.hid hb
        have HLW := Lib.hid hlw
        have HLE := Lib.hid hlead
        have HND : Hid (∀ l r W, Below w.heap.size w W → Calls Tryd.prog 30 #[.agg (arr 32 fun i => bv (l i)), .agg (arr 32 fun i => bv (r i))] W fun e w' => e = .returned (.agg (arr 32 fun i => bv (node l r i))) ∧ Below W.heap.size W w') := Lib.hid fun l r W hb' => node_any l r W (HT.out.below hb')
        clear hst hrp hlw hbw hrI hp hx hlead h12 hb
        have hone := ptc_one p
        by_cases hgt : p.1 > a
        · have dgt : decide ((p.1 : Int) > (a : Int)) = true := decide_eq_true (by omega)
          have hgt2 : (a : Int) < (p.1 : Int) := by omega
          have HG := Lib.hid hgt
          go_wp2_with (first
            | (guard_target = wpList _ _ _ (Oper.mk _ (.load 75 _) _ _ _ _ :: _) _ _; refine wpList_load_run rfl 75 _ rfl _ (.agg (ptc p)) rfl HLW.out ?_)
            | (refine wpList_store_arrW rfl 75 _ _ rfl wr.heap.size (ptc p) rfl rfl 75 _ (Blk.new wr _ _) (size_ptc _) rfl hone ?_; intro W3 hS3 hz3 hb3 hk3; have q13 : Below wr.heap.size wr W3 := ((Below.refl _ wr).alloc (Nat.le_refl _) _).trans hb3; have c30 : W3.cell? ⟨wr.heap.size, 0, none⟩ = some (.int .i64 (p.1 : Int)) := hS3.cell 0; have Q3 := Lib.hid q13; clear hS3 hz3 hb3 hk3 q13))
          have q12 : Blk W3.drew W1.heap.size 30 (arr 32 fun i => bv (top i)) := H12.out.below Q3.out.drew H12.out.lt
          have qbX : Below W1.heap.size W1 W3.drew := HBX.out.trans (Q3.out.drew.mono HBX.out.size)
          have hl12 := load_blk q12
          have hlp := HLP.out W3.drew (KB.out.trans (qbX.mono KB.out.size))
          clear c30
          refine wp_region_held_drew (S := fun _ => True) (by kernel_rfl) ?_ (fun hHeld => ?_)
          · exact trivial
          refine wpAnyH_take (i := 1) (oi := ⟨some 47, _, _, _, _, _⟩) (v := ?_) rfl (by kernel_rfl) (by kernel_rfl) (by kernel_rfl) (fun _ _ _ h => h) (Or.inl ⟨by rfl, ?_⟩) (by assumption) ?_
          rotate_left
          · intro w hSw; (try dsimp only at hSw); go_simp; try (with_reducible rfl)
          rotate_left 0
          try simp only [Act.put, List.setIfInBounds_toArray, List.set_cons_zero, List.set_cons_succ]
          refine wpAnyH_take (i := 2) (oi := ⟨some 48, _, _, _, _, _⟩) (v := ?_) rfl (by kernel_rfl) (by kernel_rfl) (by kernel_rfl) (fun _ _ _ h => h) (Or.inl ⟨by rfl, ?_⟩) (by assumption) ?_
          rotate_left
          · intro w hSw; (try dsimp only at hSw); go_simp; try (with_reducible rfl)
          rotate_left 0
          try simp only [Act.put, List.setIfInBounds_toArray, List.set_cons_zero, List.set_cons_succ]
          refine wpAnyH_take (i := 3) (oi := ⟨some 49, _, _, _, _, _⟩) (v := ?_) rfl (by kernel_rfl) (by kernel_rfl) (by kernel_rfl) (fun _ _ _ h => h) (Or.inl ⟨by rfl, ?_⟩) (by assumption) ?_
          rotate_left
          · intro w hSw; (try dsimp only at hSw); go_simp; try (with_reducible rfl)
          rotate_left 0
          try simp only [Act.put, List.setIfInBounds_toArray, List.set_cons_zero, List.set_cons_succ]
          refine wpAnyH_ready (rs := [0, 4]) (by kernel_rfl) (by simp) ?_
          refine (AllReadyH.cons (o := ⟨some 46, _, _, _, _, _⟩) rfl (fun K hK => ?_) (AllReadyH.cons (o := ⟨some 50, _, _, _, _, _⟩) rfl (fun K hK => ?_) AllReadyH.nil))
          · (try rw [if_pos (by rfl)])
            refine oper_load 30 _ rfl _ _ rfl hl12 ?_
            try simp only [Act.put, List.setIfInBounds_toArray, List.set_cons_zero, List.set_cons_succ]
            try dsimp only
            refine hK.out _ _ (trivial) (fun hHeld => ?_)
            clear hK K
            try simp only [Act.put, List.setIfInBounds_toArray, List.set_cons_zero, List.set_cons_succ]
            refine wpAnyH_ready (rs := [4]) (by kernel_rfl) (by simp) ?_
            refine (AllReadyH.cons (o := ⟨some 50, _, _, _, _, _⟩) rfl (fun K hK => ?_) AllReadyH.nil)
            (try rw [if_pos (by rfl)])
            refine oper_load 30 _ rfl _ _ rfl hlp ?_
            try simp only [Act.put, List.setIfInBounds_toArray, List.set_cons_zero, List.set_cons_succ]
            try dsimp only
            refine hK.out _ _ (trivial) (fun hHeld => ?_)
            clear hK K
            try simp only [Act.put, List.setIfInBounds_toArray, List.set_cons_zero, List.set_cons_succ]
            refine wpAnyH_ready (rs := [5]) (by kernel_rfl) (by simp) ?_
            refine (AllReadyH.cons (o := ⟨some 51, _, _, _, _, _⟩) rfl (fun K hK => ?_) AllReadyH.nil)
            (try rw [if_pos (by rfl)])
            go_simp
            refine (HND.out top x _ (KB.out.trans (qbX.mono KB.out.size))).mono ?_
            rintro e W5 ⟨rfl, hb5⟩
            replace q12 := Blk.below q12 hb5 (Blk.lt q12)
            replace qbX := qbX.trans (hb5.mono qbX.size)
            try dsimp only
            refine hK.out _ _ (trivial) (fun hHeld => ?_)
            clear hK K
            try simp only [Act.put, List.setIfInBounds_toArray, List.set_cons_zero, List.set_cons_succ]
            refine wpAnyH_ready (rs := [6]) (by kernel_rfl) (by simp) ?_
            refine (AllReadyH.cons (o := ⟨none, _, _, _, _, _⟩) rfl (fun K hK => ?_) AllReadyH.nil)
            (try rw [if_pos (by rfl)])
            refine wp_store_row 30 _ _ rfl W1.heap.size (arr 32 fun i => bv (node top x i)) rfl rfl 30 _ q12 (by rw [arr_size]; kernel_rfl) (by rw [arr_size, arr_size]) (arr_all_bv _ _) ?_
            replace q12 := Blk.setRow q12 (arr 32 fun i => bv (node top x i))
            replace qbX := below_setRow qbX (Nat.le_refl _) (arr 32 fun i => bv (node top x i))
            try simp only [Act.put]
            try dsimp only
            refine hK.out _ _ (trivial) (fun hHeld => ?_)
            clear hK K
            try simp only [Act.put, List.setIfInBounds_toArray, List.set_cons_zero, List.set_cons_succ]
            refine wpAnyH_done (by kernel_rfl) ?_ _
            have HE := Lib.hid (And.intro q12 qbX)
            have hle := HLE.out
            rw [if_pos HG.out] at hle
            have HLE2 := Lib.hid hle
            clear q12 qbX hle hl12 hlp
            go_wp2_with fail
            go_roundw
            case rel => exact ⟨k + 1, node top x, by omega, by go_num, HLE2.out, HE.out.1, HE.out.2⟩
            case measure => simp [intOf]; omega
          · (try rw [if_pos (by rfl)])
            refine oper_load 30 _ rfl _ _ rfl hlp ?_
            try simp only [Act.put, List.setIfInBounds_toArray, List.set_cons_zero, List.set_cons_succ]
            try dsimp only
            refine hK.out _ _ (trivial) (fun hHeld => ?_)
            clear hK K
            try simp only [Act.put, List.setIfInBounds_toArray, List.set_cons_zero, List.set_cons_succ]
            refine wpAnyH_ready (rs := [0]) (by kernel_rfl) (by simp) ?_
            refine (AllReadyH.cons (o := ⟨some 46, _, _, _, _, _⟩) rfl (fun K hK => ?_) AllReadyH.nil)
            (try rw [if_pos (by rfl)])
            refine oper_load 30 _ rfl _ _ rfl hl12 ?_
            try simp only [Act.put, List.setIfInBounds_toArray, List.set_cons_zero, List.set_cons_succ]
            try dsimp only
            refine hK.out _ _ (trivial) (fun hHeld => ?_)
            clear hK K
            try simp only [Act.put, List.setIfInBounds_toArray, List.set_cons_zero, List.set_cons_succ]
            refine wpAnyH_ready (rs := [5]) (by kernel_rfl) (by simp) ?_
            refine (AllReadyH.cons (o := ⟨some 51, _, _, _, _, _⟩) rfl (fun K hK => ?_) AllReadyH.nil)
            (try rw [if_pos (by rfl)])
            go_simp
            refine (HND.out top x _ (KB.out.trans (qbX.mono KB.out.size))).mono ?_
            rintro e W5 ⟨rfl, hb5⟩
            replace q12 := Blk.below q12 hb5 (Blk.lt q12)
            replace qbX := qbX.trans (hb5.mono qbX.size)
            try dsimp only
            refine hK.out _ _ (trivial) (fun hHeld => ?_)
            clear hK K
            try simp only [Act.put, List.setIfInBounds_toArray, List.set_cons_zero, List.set_cons_succ]
            refine wpAnyH_ready (rs := [6]) (by kernel_rfl) (by simp) ?_
            refine (AllReadyH.cons (o := ⟨none, _, _, _, _, _⟩) rfl (fun K hK => ?_) AllReadyH.nil)
            (try rw [if_pos (by rfl)])
            refine wp_store_row 30 _ _ rfl W1.heap.size (arr 32 fun i => bv (node top x i)) rfl rfl 30 _ q12 (by rw [arr_size]; kernel_rfl) (by rw [arr_size, arr_size]) (arr_all_bv _ _) ?_
            replace q12 := Blk.setRow q12 (arr 32 fun i => bv (node top x i))
            replace qbX := below_setRow qbX (Nat.le_refl _) (arr 32 fun i => bv (node top x i))
            try simp only [Act.put]
            try dsimp only
            refine hK.out _ _ (trivial) (fun hHeld => ?_)
            clear hK K
            try simp only [Act.put, List.setIfInBounds_toArray, List.set_cons_zero, List.set_cons_succ]
            refine wpAnyH_done (by kernel_rfl) ?_ _
            have HE := Lib.hid (And.intro q12 qbX)
            have hle := HLE.out
            rw [if_pos HG.out] at hle
            have HLE2 := Lib.hid hle
            clear q12 qbX hle hl12 hlp
            go_wp2_with fail
            go_roundw
            case rel => exact ⟨k + 1, node top x, by omega, by go_num, HLE2.out, HE.out.1, HE.out.2⟩
            case measure => simp [intOf]; omega
        · have dgt : decide ((p.1 : Int) > (a : Int)) = false := decide_eq_false (by omega)
          have hgt2 : ¬ ((a : Int) < (p.1 : Int)) := by omega
          have HG := Lib.hid hgt
          go_wp2_with (first
            | (guard_target = wpList _ _ _ (Oper.mk _ (.load 75 _) _ _ _ _ :: _) _ _; refine wpList_load_run rfl 75 _ rfl _ (.agg (ptc p)) rfl HLW.out ?_)
            | (refine wpList_store_arrW rfl 75 _ _ rfl wr.heap.size (ptc p) rfl rfl 75 _ (Blk.new wr _ _) (size_ptc _) rfl hone ?_; intro W3 hS3 hz3 hb3 hk3; have q13 : Below wr.heap.size wr W3 := ((Below.refl _ wr).alloc (Nat.le_refl _) _).trans hb3; have c30 : W3.cell? ⟨wr.heap.size, 0, none⟩ = some (.int .i64 (p.1 : Int)) := hS3.cell 0; have Q3 := Lib.hid q13; clear hS3 hz3 hb3 hk3 q13))
          have q12 : Blk W3.drew W1.heap.size 30 (arr 32 fun i => bv (top i)) := H12.out.below Q3.out.drew H12.out.lt
          have qbX : Below W1.heap.size W1 W3.drew := HBX.out.trans (Q3.out.drew.mono HBX.out.size)
          have hl12 := load_blk q12
          have hlp := HLP.out W3.drew (KB.out.trans (qbX.mono KB.out.size))
          clear c30
          refine wp_region_held_drew (S := fun _ => True) (by kernel_rfl) ?_ (fun hHeld => ?_)
          · exact trivial
          refine wpAnyH_take (i := 0) (oi := ⟨some 52, _, _, _, _, _⟩) (v := ?_) rfl (by kernel_rfl) (by kernel_rfl) (by kernel_rfl) (fun _ _ _ h => h) (Or.inl ⟨by rfl, ?_⟩) (by assumption) ?_
          rotate_left
          · intro w hSw; (try dsimp only at hSw); go_simp; try (with_reducible rfl)
          rotate_left 0
          try simp only [Act.put, List.setIfInBounds_toArray, List.set_cons_zero, List.set_cons_succ]
          refine wpAnyH_take (i := 1) (oi := ⟨some 53, _, _, _, _, _⟩) (v := ?_) rfl (by kernel_rfl) (by kernel_rfl) (by kernel_rfl) (fun _ _ _ h => h) (Or.inl ⟨by rfl, ?_⟩) (by assumption) ?_
          rotate_left
          · intro w hSw; (try dsimp only at hSw); go_simp; try (with_reducible rfl)
          rotate_left 0
          try simp only [Act.put, List.setIfInBounds_toArray, List.set_cons_zero, List.set_cons_succ]
          refine wpAnyH_take (i := 2) (oi := ⟨some 54, _, _, _, _, _⟩) (v := ?_) rfl (by kernel_rfl) (by kernel_rfl) (by kernel_rfl) (fun _ _ _ h => h) (Or.inl ⟨by rfl, ?_⟩) (by assumption) ?_
          rotate_left
          · intro w hSw; (try dsimp only at hSw); go_simp; try (with_reducible rfl)
          rotate_left 0
          try simp only [Act.put, List.setIfInBounds_toArray, List.set_cons_zero, List.set_cons_succ]
          refine wpAnyH_ready (rs := [3, 4]) (by kernel_rfl) (by simp) ?_
          refine (AllReadyH.cons (o := ⟨some 55, _, _, _, _, _⟩) rfl (fun K hK => ?_) (AllReadyH.cons (o := ⟨some 56, _, _, _, _, _⟩) rfl (fun K hK => ?_) AllReadyH.nil))
          · (try rw [if_pos (by rfl)])
            refine oper_load 30 _ rfl _ _ rfl hlp ?_
            try simp only [Act.put, List.setIfInBounds_toArray, List.set_cons_zero, List.set_cons_succ]
            try dsimp only
            refine hK.out _ _ (trivial) (fun hHeld => ?_)
            clear hK K
            try simp only [Act.put, List.setIfInBounds_toArray, List.set_cons_zero, List.set_cons_succ]
            refine wpAnyH_ready (rs := [4]) (by kernel_rfl) (by simp) ?_
            refine (AllReadyH.cons (o := ⟨some 56, _, _, _, _, _⟩) rfl (fun K hK => ?_) AllReadyH.nil)
            (try rw [if_pos (by rfl)])
            refine oper_load 30 _ rfl _ _ rfl hl12 ?_
            try simp only [Act.put, List.setIfInBounds_toArray, List.set_cons_zero, List.set_cons_succ]
            try dsimp only
            refine hK.out _ _ (trivial) (fun hHeld => ?_)
            clear hK K
            try simp only [Act.put, List.setIfInBounds_toArray, List.set_cons_zero, List.set_cons_succ]
            refine wpAnyH_ready (rs := [5]) (by kernel_rfl) (by simp) ?_
            refine (AllReadyH.cons (o := ⟨some 57, _, _, _, _, _⟩) rfl (fun K hK => ?_) AllReadyH.nil)
            (try rw [if_pos (by rfl)])
            go_simp
            refine (HND.out x top _ (KB.out.trans (qbX.mono KB.out.size))).mono ?_
            rintro e W5 ⟨rfl, hb5⟩
            replace q12 := Blk.below q12 hb5 (Blk.lt q12)
            replace qbX := qbX.trans (hb5.mono qbX.size)
            try dsimp only
            refine hK.out _ _ (trivial) (fun hHeld => ?_)
            clear hK K
            try simp only [Act.put, List.setIfInBounds_toArray, List.set_cons_zero, List.set_cons_succ]
            refine wpAnyH_ready (rs := [6]) (by kernel_rfl) (by simp) ?_
            refine (AllReadyH.cons (o := ⟨none, _, _, _, _, _⟩) rfl (fun K hK => ?_) AllReadyH.nil)
            (try rw [if_pos (by rfl)])
            refine wp_store_row 30 _ _ rfl W1.heap.size (arr 32 fun i => bv (node x top i)) rfl rfl 30 _ q12 (by rw [arr_size]; kernel_rfl) (by rw [arr_size, arr_size]) (arr_all_bv _ _) ?_
            replace q12 := Blk.setRow q12 (arr 32 fun i => bv (node x top i))
            replace qbX := below_setRow qbX (Nat.le_refl _) (arr 32 fun i => bv (node x top i))
            try simp only [Act.put]
            try dsimp only
            refine hK.out _ _ (trivial) (fun hHeld => ?_)
            clear hK K
            try simp only [Act.put, List.setIfInBounds_toArray, List.set_cons_zero, List.set_cons_succ]
            refine wpAnyH_done (by kernel_rfl) ?_ _
            have HE := Lib.hid (And.intro q12 qbX)
            have hle := HLE.out
            rw [if_neg HG.out] at hle
            have HLE2 := Lib.hid hle
            clear q12 qbX hle hl12 hlp
            go_wp2_with fail
            go_roundw
            case rel => exact ⟨k + 1, node x top, by omega, by go_num, HLE2.out, HE.out.1, HE.out.2⟩
            case measure => simp [intOf]; omega
          · (try rw [if_pos (by rfl)])
            refine oper_load 30 _ rfl _ _ rfl hl12 ?_
            try simp only [Act.put, List.setIfInBounds_toArray, List.set_cons_zero, List.set_cons_succ]
            try dsimp only
            refine hK.out _ _ (trivial) (fun hHeld => ?_)
            clear hK K
            try simp only [Act.put, List.setIfInBounds_toArray, List.set_cons_zero, List.set_cons_succ]
            refine wpAnyH_ready (rs := [3]) (by kernel_rfl) (by simp) ?_
            refine (AllReadyH.cons (o := ⟨some 55, _, _, _, _, _⟩) rfl (fun K hK => ?_) AllReadyH.nil)
            (try rw [if_pos (by rfl)])
            refine oper_load 30 _ rfl _ _ rfl hlp ?_
            try simp only [Act.put, List.setIfInBounds_toArray, List.set_cons_zero, List.set_cons_succ]
            try dsimp only
            refine hK.out _ _ (trivial) (fun hHeld => ?_)
            clear hK K
            try simp only [Act.put, List.setIfInBounds_toArray, List.set_cons_zero, List.set_cons_succ]
            refine wpAnyH_ready (rs := [5]) (by kernel_rfl) (by simp) ?_
            refine (AllReadyH.cons (o := ⟨some 57, _, _, _, _, _⟩) rfl (fun K hK => ?_) AllReadyH.nil)
            (try rw [if_pos (by rfl)])
            go_simp
            refine (HND.out x top _ (KB.out.trans (qbX.mono KB.out.size))).mono ?_
            rintro e W5 ⟨rfl, hb5⟩
            replace q12 := Blk.below q12 hb5 (Blk.lt q12)
            replace qbX := qbX.trans (hb5.mono qbX.size)
            try dsimp only
            refine hK.out _ _ (trivial) (fun hHeld => ?_)
            clear hK K
            try simp only [Act.put, List.setIfInBounds_toArray, List.set_cons_zero, List.set_cons_succ]
            refine wpAnyH_ready (rs := [6]) (by kernel_rfl) (by simp) ?_
            refine (AllReadyH.cons (o := ⟨none, _, _, _, _, _⟩) rfl (fun K hK => ?_) AllReadyH.nil)
            (try rw [if_pos (by rfl)])
            refine wp_store_row 30 _ _ rfl W1.heap.size (arr 32 fun i => bv (node x top i)) rfl rfl 30 _ q12 (by rw [arr_size]; kernel_rfl) (by rw [arr_size, arr_size]) (arr_all_bv _ _) ?_
            replace q12 := Blk.setRow q12 (arr 32 fun i => bv (node x top i))
            replace qbX := below_setRow qbX (Nat.le_refl _) (arr 32 fun i => bv (node x top i))
            try simp only [Act.put]
            try dsimp only
            refine hK.out _ _ (trivial) (fun hHeld => ?_)
            clear hK K
            try simp only [Act.put, List.setIfInBounds_toArray, List.set_cons_zero, List.set_cons_succ]
            refine wpAnyH_done (by kernel_rfl) ?_ _
            have HE := Lib.hid (And.intro q12 qbX)
            have hle := HLE.out
            rw [if_neg HG.out] at hle
            have HLE2 := Lib.hid hle
            clear q12 qbX hle hl12 hlp
            go_wp2_with fail
            go_roundw
            case rel => exact ⟨k + 1, node x top, by omega, by go_num, HLE2.out, HE.out.1, HE.out.2⟩
            case measure => simp [intOf]; omega
      · obtain rfl : k = n := by omega
        rw [leadP_end (by rw [HWL.out]; exact Nat.le_refl _)] at hlead
        subst hlead
        have H12 := Lib.hid h12
        have H9 := Lib.hid (KB.out)
        have HB := Lib.hid (KB.out.trans (hb.mono KB.out.size))
        have K9' := Lib.hid (K9.out.below hb K9.out.lt)
        obtain ⟨hrt, hrR⟩ := HRT.out
        clear h12 hb
        cases β with
        | true =>
          have NE := HNE.out
          simp only [Bool.not_true] at NE
          go_wp2_with (first
            | (refine wpList_load_arr rfl 30 _ rfl W1.heap.size rfl 30 (arr 32 fun i => bv (top i)) _ H12.out Tryd.underlying30 rfl (by rw [arr_size]; kernel_rfl) ?_)
            | (refine wpList_load_arr rfl 30 _ rfl (w.heap.size + 1) rfl 30 rt _ K9'.out Tryd.underlying30 rfl (by rw [← hrt, arr_size]; kernel_rfl) ?_))
          go_ret
          exact ⟨rfl, HB.out⟩
        | false =>
          have NE := HNE.out
          simp only [Bool.not_false] at NE
          go_wp2_with (first
            | (refine wpList_load_arr rfl 30 _ rfl W1.heap.size rfl 30 (arr 32 fun i => bv (top i)) _ H12.out Tryd.underlying30 rfl (by rw [arr_size]; kernel_rfl) ?_)
            | (refine wpList_load_arr rfl 30 _ rfl (w.heap.size + 1) rfl 30 rt _ K9'.out Tryd.underlying30 rfl (by rw [← hrt, arr_size]; kernel_rfl) ?_))
          go_ret
          exact ⟨rfl, HB.out⟩
  · rw [if_pos hnN]
    have dn : ((n : Int) == (N : Int)) = false := by rw [beq_eq_false_iff_ne]; omega
    go_enter Tryd.func28, Tryd.ntmps28
    go_wp2_with (go_at_call 41; refine (HWO.out _).mono ?_; rintro e W1 ⟨Aw, cw, rfl, ho1, hb1⟩; have KB := Lib.hid (HB0.out.trans (hb1.mono HB0.out.size)); clear ho1 hb1)
    go_ret
    exact ⟨rfl, KB.out⟩
theorem cinc_any (leaf root : D) (a size : Int) (v : Value) (path : List D) (w : World) (hT : Tables w) (hr : RdI w (fun b => b < w.heap.size) v path) :
    Calls Tryd.prog 28 #[.agg (arr 32 fun i => bv (leaf i)), .int .i64 a, .int .i64 size, v, .agg (arr 32 fun i => bv (root i))] w fun e w' => e = .returned (.int .i64 (cincV leaf a size path root)) ∧ Below w.heap.size w w' := by
  by_cases h : a < 0 ∨ size ≤ a ∨ 1099511627776 < size
  · have e : cincV leaf a size path root = 1 := by unfold cincV; rw [if_pos h]
    rw [e]
    exact cinc_range leaf root a size h v w
  · obtain ⟨a', rfl⟩ := Int.eq_ofNat_of_zero_le (show 0 ≤ a by omega)
    obtain ⟨s', rfl⟩ := Int.eq_ofNat_of_zero_le (show 0 ≤ size by omega)
    exact cinc_in leaf root a' s' (by omega) (by omega) v path w hT hr
end Go.Proofs.YtphknicdllcbmaaDoor
