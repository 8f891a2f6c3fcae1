/-
  Audit: which entry was there before. In whatever memory. No condition but on the list's length.
-/
import Derived.Test.YtjdgcciemlfapaaQBk
import Derived.Test.YtjdgcciemlfapaaPackReadMath
import Derived.Test.YtjdgcciemlfapaaQAu
import Derived.DeepKeys4
import Derived.Laws.Tables
namespace Go.Proofs.Ytjdgcciemlfapaa
open Go Go.RowKit Go.Shelf Go.Maps PackMath

/-! An entry's name. -/
def nameA (b : List UInt8) : Option (Int × Int) := match checkA b with
  | .ok r => some (r.who, r.num)
  | .error _ => none
/-- The first of so many with a name. -/
def lookN (l : List (List UInt8)) (k : Nat) (nm : Int × Int) : Option Nat := (List.range k).find? fun j => decide (nameA (l.getD j []) = some nm)
def twAt (l : List (List UInt8)) (k : Nat) : Option (Nat × Nat) := (nameA (l.getD k [])).bind fun nm => (lookN l k nm).map fun i => (i, k)
/-- The first that was there before. -/
def twL (l : List (List UInt8)) : Option (Nat × Nat) := (List.range l.length).findSome? fun k => twAt l k
theorem lookN_succ (l : List (List UInt8)) (k : Nat) (nm : Int × Int) : lookN l (k + 1) nm = (lookN l k nm).or (if nameA (l.getD k []) = some nm then some k else none) := by
  unfold lookN
  rw [List.range_succ, List.find?_append]
  congr 1
  by_cases h : nameA (l.getD k []) = some nm
  · rw [if_pos h, List.find?_cons_of_pos (by simpa using h)]
  · rw [if_neg h, List.find?_cons_of_neg (by simpa using h)]
    rfl
theorem twL_some {l : List (List UInt8)} {k : Nat} {x : Nat × Nat} (hk : k < l.length) (h : twAt l k = some x) (hn : ∀ j, j < k → twAt l j = none) : twL l = some x := by
  unfold twL
  have e : List.range l.length = List.range k ++ (k :: (List.range' (k + 1) (l.length - (k + 1)))) := by
    rw [List.range_eq_range', List.range_eq_range', ← List.range'_succ, show l.length - (k + 1) + 1 = l.length - k by omega]
    have := List.range'_append_1 (s := 0) (m := k) (n := l.length - k)
    rw [Nat.zero_add] at this
    rw [this, show k + (l.length - k) = l.length by omega]
  rw [e, List.findSome?_append, List.findSome?_eq_none_iff.2 (fun j hj => hn j (List.mem_range.1 hj)), Option.none_or, List.findSome?_cons, h]
theorem twL_none {l : List (List UInt8)} (hn : ∀ j, j < l.length → twAt l j = none) : twL l = none := by
  unfold twL
  exact List.findSome?_eq_none_iff.2 fun j hj => hn j (List.mem_range.1 hj)
def twV (l : List (List UInt8)) : Value := match twL l with
  | some (i, k) => .agg #[.int .i64 (i : Int), .int .i64 (k : Int), .int .i64 0]
  | none => .agg #[.int .i64 0, .int .i64 0, .int .i64 0]
def wfi (n : Int) : Prop := (Lit.int .i64 n).wf = true
theorem nameA_wf {b : List UInt8} {nm : Int × Int} (h : nameA b = some nm) : wfi nm.1 ∧ wfi nm.2 := by
  unfold nameA checkA at h
  split at h
  · rename_i r hr
    split at hr
    · cases hr
    · rename_i r' hp
      split at hr
      · cases hr
      · split at hr
        · split at hr
          · cases hr
          · injection hr with hr
            subst hr
            injection h with h
            subst h
            obtain ⟨_, hf⟩ := readP_back hp
            have h1 := hf.who
            have h2 := hf.num
            unfold wfi
            constructor <;> (simp [Lit.wf, IntKind.min, IntKind.max, IntKind.signed, IntKind.bits]; omega)
        · cases hr
  · cases h
/-! The map. -/
theorem nam_laid : laidOutB Try.prog = true := by kernel_rfl
theorem nam_row : (74 : TypeId) < Try.prog.types.size := of_decide_eq_true (by kernel_rfl)
theorem nam_wide : (match Try.prog.underlying 74 with | some (.array _ _) | some (.struct _) => true | _ => false) = true := by kernel_rfl
set_option maxRecDepth 100000 in
theorem nam_law : Keyed Try.prog 74 := Keyed.of_law (deep_law_laid nam_laid (m := 2) (by omega) nam_row (by kernel_rfl) nam_wide)
theorem nam_keyType : Try.prog.keyType 74 = true := by kernel_rfl
theorem nam_cells : Try.prog.cellsOf 74 = 2 := by kernel_rfl
theorem nam_cells1 : Try.prog.cellsOf 3 = 1 := by kernel_rfl
theorem nam_types : ∃ m, Try.prog.types.size = m + 1 := ⟨Try.prog.types.size - 1, by have : 0 < Try.prog.types.size := of_decide_eq_true (by kernel_rfl); omega⟩
def key2 (r k : Int) : Value := .agg #[.int .i64 r, .int .i64 k]
theorem key2_some {r k : Int} (hr : wfi r) (hk : wfi k) : ∃ kl, keyOf Try.prog 74 (key2 r k) = some kl := by
  unfold wfi at hr hk
  obtain ⟨m, hm⟩ := nam_types
  have hu := Try.underlying74
  refine ⟨.string (keyBytes [.int .i64 r, .int .i64 k]), ?_⟩
  unfold keyOf key2
  simp only [hu]
  rw [if_pos (by simp [nam_keyType, Value.formed, hu, nam_cells]), hm]
  unfold Program.keyLits
  simp only [hu, Value.cells]
  rw [if_pos ⟨by rw [nam_cells]; rfl, by simp⟩]
  simp [List.mapM_cons, Program.keyLits, Try.underlying3, nam_cells1, hr, hk]
theorem key2_inj {r k r' k' : Int} (e : key2 r' k' = key2 r k) : r' = r ∧ k' = k := by
  unfold key2 at e
  injection e with e
  have := congrArg Array.toList e
  simpa using this
/-- Block b is the map of the names of the first k. -/
def NamM (W : World) (b k : Nat) (l : List (List UInt8)) : Prop := ∃ M, MapV Try.prog 74 W b k M ∧ ∀ nm : Int × Int, M (key2 nm.1 nm.2) = (lookN l k nm).map fun j => .int .i64 (j : Int)
theorem namM_made (w : World) (l : List (List UInt8)) : NamM (w.alloc (.map #[] 0)) w.heap.size 0 l := ⟨_, mapV_made _ _ w, fun _nm => rfl⟩
section
variable {W W' : World} {b k : Nat} {l : List (List UInt8)}
theorem NamM.same (h : NamM W b k l) (hb : W'.heap[b]? = W.heap[b]?) : NamM W' b k l := by
  obtain ⟨M, h1, h2⟩ := h
  exact ⟨M, h1.same hb, h2⟩
theorem NamM.lt (h : NamM W b k l) : b < W.heap.size := by
  obtain ⟨M, h1, h2⟩ := h
  exact h1.lt
theorem NamM.skip (h : NamM W b k l) (hn : nameA (l.getD k []) = none) : NamM W b (k + 1) l := by
  obtain ⟨M, h1, h2⟩ := h
  refine ⟨M, h1.mono (by omega), fun nm => ?_⟩
  rw [h2, lookN_succ, hn, if_neg (by simp), Option.or_none]
theorem NamM.put {nm : Int × Int} {M : Value → Option Value} (h2 : ∀ nm : Int × Int, M (key2 nm.1 nm.2) = (lookN l k nm).map fun j => .int .i64 (j : Int)) (hn : nameA (l.getD k []) = some nm) (h0 : lookN l k nm = none) (hm : MapV Try.prog 74 W b (k + 1) (putV M (key2 nm.1 nm.2) (.int .i64 (k : Int)))) : NamM W b (k + 1) l := by
  refine ⟨_, hm, fun nm' => ?_⟩
  rw [lookN_succ]
  by_cases e : nm' = nm
  · subst e
    rw [putV_same, if_pos hn, h0]
    rfl
  · rw [putV_other (fun h => e (Prod.ext (key2_inj h).1 (key2_inj h).2)), h2 nm', if_neg (fun h => e (by rw [hn] at h; injection h with h; exact h.symm)), Option.or_none]
end
def idxV (o : Option Nat) : Int := match o with | some j => (j : Int) | none => 0
section
variable {ops : Array Oper} {rest : List Oper} {o : Oper} {a : Go.Act} {w : World} {Q : Exit → Go.Act → World → Prop} {b k : Nat} {l : List (List UInt8)}
theorem wpList_nam_look (hg : o.guard = none) (m x : Operand) (hop : o.op = Op.lookup 72 m x true) (hm : a.eval m = .map (some b)) (h : NamM w b k l) (u v : Int) (hx : a.eval x = key2 u v) (hu : wfi u) (hv : wfi v) (hK : wpList Try.prog ops Q rest (a.put o.dst (.tuple #[.int .i64 (idxV (lookN l k (u, v))), .bool (lookN l k (u, v)).isSome])) w) : wpList Try.prog ops Q (o :: rest) a w := by
  obtain ⟨M, h1, h2⟩ := h
  refine wpList_lookupOk_V hg m x 72 hop 74 3 nam_law Try.underlying72 (int_zeroA w) b k M hm h1 _ hx (key2_some hu hv) ?_
  have e := h2 (u, v)
  simp only at e
  rw [e]
  cases hl : lookN l k (u, v) with
  | none => rw [hl] at hK; exact hK
  | some j => rw [hl] at hK; exact hK
theorem wpList_nam_store (hg : o.guard = none) (m x v : Operand) (hop : o.op = Op.mapUpdate 72 m x v) (hm : a.eval m = .map (some b)) (h : NamM w b k l) (hn : k < maxLen) (p q : Int) (hx : a.eval x = key2 p q) (hv : a.eval v = .int .i64 (k : Int)) (hp : wfi p) (hq : wfi q) (hnm : nameA (l.getD k []) = some (p, q)) (h0 : lookN l k (p, q) = none)
    (hK : ∀ w', NamM w' b (k + 1) l → w.mapTurned w' b → wpList Try.prog ops Q rest (a.put o.dst undef) w') : wpList Try.prog ops Q (o :: rest) a w := by
  obtain ⟨M, h1, h2⟩ := h
  exact wpList_store_V hg m x v 72 hop 74 3 nam_law Try.underlying72 b k M hm h1 hn _ _ hx hv (key2_some hp hq) fun w' r1 r2 => hK w' (NamM.put h2 hnm h0 r1) r2
end
/-- Between two rounds. -/
structure TwI (w : World) (l : List (List UInt8)) (k : Nat) (W : World) : Prop where
  res : Blk W w.heap.size 45 #[.int .i64 0, .int .i64 0, .int .i64 0]
  map : NamM W (w.heap.size + 1) k l
  size : w.heap.size + 2 ≤ W.heap.size
  none : ∀ j, j < k → twAt l j = none
  old : Below w.heap.size w W
theorem TwI.below {w W W' : World} {l : List (List UInt8)} {k : Nat} (h : TwI w l k W) (hb : Below W.heap.size W W') : TwI w l k W' :=
  ⟨h.res.below hb h.res.lt, h.map.same (hb.block _ h.map.lt), Nat.le_trans h.size hb.size, h.none, h.old.trans (hb.mono h.old.size)⟩
theorem TwI.next {w W : World} {l : List (List UInt8)} {k : Nat} (h : TwI w l k W) (hm : NamM W (w.heap.size + 1) (k + 1) l) (hn : twAt l k = Option.none) : TwI w l (k + 1) W :=
  ⟨h.res, hm, h.size, fun j hj => by
    by_cases e : j = k
    · subst e; exact hn
    · exact h.none j (by omega), h.old⟩
theorem TwI.put {w W W' : World} {l : List (List UInt8)} {k : Nat} (h : TwI w l k W) (hm : NamM W' (w.heap.size + 1) (k + 1) l) (ht : W.mapTurned W' (w.heap.size + 1)) (hn : twAt l k = Option.none) : TwI w l (k + 1) W' :=
  ⟨(turn_map ht).blk h.res (by omega), hm, Nat.le_trans h.size (turn_map ht).size, fun j hj => by
    by_cases e : j = k
    · subst e; exact hn
    · exact h.none j (by omega), below_turnA h.old (Nat.le_refl _) (turn_map ht) fun i hi => by omega⟩
set_option maxRecDepth 100000 in
set_option maxHeartbeats 8000000 in
theorem twice_any (A : Option Addr) (c : Nat) (l : List (List UInt8)) (w : World) (hr : RdP w (fun b => b < w.heap.size) A l) (hl : l.length ≤ 1000) :
    Calls Try.prog 14 #[.slice A l.length c] w fun e w' => e = .returned (.tuple #[twV l, .bool (twL l).isSome]) ∧ Below w.heap.size w w' := by
  have HR := Lib.hid hr
  obtain ⟨n, hn⟩ : ∃ z, l.length = z := ⟨_, rfl⟩
  rw [hn] at hl ⊢
  have HN := Lib.hid hn
  have hmm := @run_makeMap Try.prog
  clear hr hn
  go_enter Try.func14, Try.ntmps14
  go_upto_region 2 with fail
  obtain ⟨W0, hW0⟩ : ∃ z, (w.alloc (.cells #[.int .i64 0, .int .i64 0, .int .i64 0] 45)).alloc (.map #[] 0) = z := ⟨_, rfl⟩
  have HST : Hid (TwI w l 0 W0) := Lib.hid (by rw [← hW0]; exact ⟨(Blk.newAt _ _ rfl rfl).alloc _, by have := namM_made (w.alloc (.cells #[.int .i64 0, .int .i64 0, .int .i64 0] 45)) l; simpa using this, by simp, fun j hj => by omega, ((Below.refl _ _).alloc (Nat.le_refl _) _).alloc (by simp) _⟩)
  rw [hW0]
  clear hW0 hmm
  go_wp2_with fail
  go_loopw [14] (fun i wr => ∃ k : Nat, k ≤ n ∧ i = .int .i64 (k : Int) ∧ TwI w l k wr) (fun i _ => n - (intOf i).toNat)
  case atStart => exact ⟨0, Nat.zero_le _, rfl, HST.out⟩
  case round =>
    clear HST
    obtain ⟨k, hk, rfl, hst⟩ := hrel
    obtain ⟨wk, hwk⟩ : ∃ z, z = wr := ⟨_, rfl⟩
    subst hwk
    have HST := Lib.hid hst
    clear hst
    by_cases hkn : k < n
    · have hki : (k : Int) < (n : Int) := by omega
      obtain ⟨ad, Ax, cx, rfl, hxl, hcx, hrx, hxn⟩ := HR.out.at (k := k) (by rw [HN.out]; exact hkn)
      obtain ⟨x, hx⟩ : ∃ z, l.getD k [] = z := ⟨_, rfl⟩
      rw [hx] at hcx hrx
      have HX := Lib.hid hx
      have hcw := (HST.out.old.cell (p := ad.add k) (by rw [block_add]; exact hxl)).trans hcx
      have HCK : Hid (Calls Try.prog 30 #[.slice Ax x.length cx] wk fun e w' => CheckOut wk x e w' ∧ Below wk.heap.size wk w') := Lib.hid (bookCheck_any Ax cx x wk ((hrx.kept (W' := wk) fun p u hp q => (HST.out.old.cell (p := p) hp).trans q).mono fun b hb => Nat.lt_of_lt_of_le hb HST.out.old.size))
      obtain ⟨xn, hxn2⟩ : ∃ z, x.length = z := ⟨_, rfl⟩
      rw [hxn2] at hcw HCK
      clear hcx hrx hx hxl hxn hxn2
      cases hca : checkA x with
      | error ce =>
        have HCE : Hid (Calls Try.prog 30 #[.slice Ax xn cx] wk fun e w' => (e = .returned (.tuple #[.agg (msgA (zeroRaw 0) nilS nilS nilS), .int .i64 (ce : Int)]) ∧ ce ≠ 0) ∧ Below wk.heap.size wk w') := Lib.hid (HCK.out.mono fun e w' h => ⟨by have := h.1; unfold CheckOut at this; rw [hca] at this; exact this, h.2⟩)
        have HNM : Hid (nameA (l.getD k []) = none) := Lib.hid (by rw [HX.out]; unfold nameA; rw [hca])
        have HZA : Hid ((msgA (zeroRaw 0) nilS nilS nilS).all (·.oneCell') = true) := Lib.hid (msg_all (zero_rd w (fun _ => False) 0))
        have HZS : Hid ((msgA (zeroRaw 0) nilS nilS nilS).size = 41) := Lib.hid (arr_size _ _)
        obtain ⟨Z, hZ⟩ : ∃ Z, msgA (zeroRaw 0) nilS nilS nilS = Z := ⟨_, rfl⟩
        rw [hZ] at HCE HZA HZS
        clear hca HCK hZ
        go_wp2_with (first
          | (go_at_call 30; refine HCE.out.mono ?_; rintro e W5 ⟨⟨rfl, hce⟩, hb5⟩; have e9 : ((ce : Int) != 0) = true := (by simpa using hce); have HB5 := Lib.hid hb5; clear hce hb5)
          | (guard_target = wpList _ _ _ (Oper.mk _ (.store 28 (.tmp 7) _) _ _ _ _ :: _) _ _; refine wpList_store_row rfl 28 _ _ rfl W5.heap.size Z rfl rfl 28 _ (heap_alloc_new W5 _) (by rw [HZS.out]; kernel_rfl) (by rw [HZS.out]; rfl) HZA.out ?_; rw [World.setRow_alloc_new]))
        go_roundw
        · exact ⟨k + 1, by omega, by go_num, ((HST.out.below HB5.out).below ((Below.refl _ _).alloc (Nat.le_refl _) _)).next (((HST.out.below HB5.out).below ((Below.refl _ _).alloc (Nat.le_refl _) _)).map.skip HNM.out) (by unfold twAt; rw [HNM.out]; rfl)⟩
        · simp [intOf]
          omega
      | ok r =>
        have HCE : Hid (Calls Try.prog 30 #[.slice Ax xn cx] wk fun e w' => (∃ d i l, e = .returned (.tuple #[.agg (msgA r d i l), .int .i64 0]) ∧ RdR w' (fun b => wk.heap.size ≤ b ∧ b < w'.heap.size) r d i l) ∧ Below wk.heap.size wk w') := Lib.hid (HCK.out.mono fun e w' h => ⟨by have := h.1; unfold CheckOut at this; rw [hca] at this; exact this, h.2⟩)
        have HNM : Hid (nameA (l.getD k []) = some (r.who, r.num)) := Lib.hid (by rw [HX.out]; unfold nameA; rw [hca])
        have HWF := Lib.hid (nameA_wf HNM.out)
        clear hca HCK
        go_upto_region 5 with fail
        go_upto_region 6 with (first
          | (go_at_call 30; refine HCE.out.mono ?_; rintro e W5 ⟨⟨d, i, lv, rfl, hrr⟩, hb5⟩; have HMA : Hid ((msgA r d i lv).all (·.oneCell') = true) := Lib.hid (msg_all hrr); have HMS : Hid ((msgA r d i lv).size = 41) := Lib.hid (arr_size _ _); have HB5 := Lib.hid hb5; obtain ⟨V, hV⟩ : ∃ V, msgA r d i lv = V := ⟨_, rfl⟩; have HV := Lib.hid hV; rw [hV] at HMA HMS ⊢; clear hrr hb5 hV)
          | (guard_target = wpList _ _ _ (Oper.mk _ (.store 28 (.tmp 7) _) _ _ _ _ :: _) _ _; refine wpList_store_row rfl 28 _ _ rfl W5.heap.size V rfl rfl 28 _ (heap_alloc_new W5 _) (by rw [HMS.out]; kernel_rfl) (by rw [HMS.out]; rfl) HMA.out ?_; rw [World.setRow_alloc_new]))
        obtain ⟨W6, hW6⟩ : ∃ z, W5.alloc (.cells V 28) = z := ⟨_, rfl⟩
        rw [hW6]
        have hk6 : Blk W6 W5.heap.size 28 (msgA r d i lv) := by rw [HV.out, ← hW6]; exact Blk.newAt _ _ rfl rfl
        have HS6 : Hid (TwI w l k W6) := Lib.hid (by rw [← hW6]; exact (HST.out.below HB5.out).below ((Below.refl _ _).alloc (Nat.le_refl _) _))
        obtain ⟨c0, c1, c2, c3, c4, c5, c7, c8, c9⟩ := msg_cells hk6
        clear hW6 hk6 c0 c2 c3 c4 c7 c8 c9
        obtain ⟨u, hu⟩ : ∃ z, r.who = z := ⟨_, rfl⟩
        obtain ⟨v, hv⟩ : ∃ z, r.num = z := ⟨_, rfl⟩
        rw [hu] at c1 HNM HWF
        rw [hv] at c5 HNM HWF
        clear hu hv
        have HSZ : Hid (k < maxLen) := Lib.hid (by unfold maxLen; omega)
        cases hlo : lookN l k (u, v) with
        | some q =>
          have HLO := Lib.hid hlo
          have HTW : Hid (twL l = some (q, k)) := Lib.hid (twL_some (by rw [HN.out]; exact hkn) (by unfold twAt; rw [HNM.out]; simp only [Option.bind_some]; rw [hlo]; rfl) HST.out.none)
          clear hlo
          go_wp2_with (first
            | (guard_target = wpList _ _ _ (Oper.mk _ (.lookup _ _ _ _) _ _ _ _ :: _) _ _; refine wpList_nam_look rfl _ _ rfl rfl HS6.out.map u v rfl HWF.out.1 HWF.out.2 ?_; rw [HLO.out]; unfold idxV; simp only [Option.isSome_some])
            | (guard_target = wpList _ _ _ (Oper.mk _ (.store 45 (.tmp 2) _) _ _ _ _ :: _) _ _; refine wpList_store_row rfl 45 _ _ rfl w.heap.size #[.int .i64 (q : Int), .int .i64 (k : Int), .int .i64 0] rfl rfl 45 _ HS6.out.res (by kernel_rfl) rfl (by kernel_rfl) ?_))
          refine bodyPost_ret (results_cell_tmp (p := 2) (q := 3) rfl _ _ w.heap.size 45 _ _ rfl (HS6.out.res.setRow _) Try.underlying45 rfl (by kernel_rfl)) rfl ⟨?_, below_setRow HS6.out.old (Nat.le_refl _) _⟩
          unfold twV
          rw [HTW.out]
          rfl
        | none =>
          have HLO := Lib.hid hlo
          have HTN : Hid (twAt l k = none) := Lib.hid (by unfold twAt; rw [HNM.out]; simp only [Option.bind_some]; rw [hlo]; rfl)
          clear hlo
          go_wp2_with (first
            | (guard_target = wpList _ _ _ (Oper.mk _ (.lookup _ _ _ _) _ _ _ _ :: _) _ _; refine wpList_nam_look rfl _ _ rfl rfl HS6.out.map u v rfl HWF.out.1 HWF.out.2 ?_; rw [HLO.out]; unfold idxV; simp only [Option.isSome_none])
            | (guard_target = wpList _ _ _ (Oper.mk _ (.mapUpdate _ _ _ _) _ _ _ _ :: _) _ _; refine wpList_nam_store rfl _ _ _ rfl rfl HS6.out.map HSZ.out u v rfl rfl HWF.out.1 HWF.out.2 HNM.out HLO.out ?_; intro w7 hm7 ht7; have H7 : Hid (TwI w l (k + 1) w7) := Lib.hid (HS6.out.put hm7 ht7 HTN.out); clear hm7 ht7))
          go_roundw
          · exact ⟨k + 1, by omega, by go_num, H7.out⟩
          · simp [intOf]
            omega
    · obtain rfl : k = n := by omega
      have HTW : Hid (twL l = none) := Lib.hid (twL_none (by rw [HN.out]; exact HST.out.none))
      go_wp2_with (guard_target = wpList _ _ _ (Oper.mk _ (.store 45 (.tmp 2) _) _ _ _ _ :: _) _ _; refine wpList_store_row rfl 45 _ _ rfl w.heap.size #[.int .i64 0, .int .i64 0, .int .i64 0] rfl rfl 45 _ HST.out.res (by kernel_rfl) rfl (by kernel_rfl) ?_)
      refine bodyPost_ret (results_cell_tmp (p := 2) (q := 3) rfl _ _ w.heap.size 45 _ _ rfl (HST.out.res.setRow _) Try.underlying45 rfl (by kernel_rfl)) rfl ⟨?_, below_setRow HST.out.old (Nat.le_refl _) _⟩
      unfold twV
      rw [HTW.out]
      rfl
end Go.Proofs.Ytjdgcciemlfapaa
