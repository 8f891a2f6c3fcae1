/-
  Layer 10: the reference's Write. In whatever memory. No condition.
-/
import Derived.Test.YtgpbpdjamimbfaaDoorJrnRefO
import Derived.Test.YtgpbpdjamimbfaaDoorJrnWr
namespace Go.Proofs.YtgpbpdjamimbfaaDoor
open Go Go.RowKit Go.Shelf

theorem own_base {w : World} {B B' k n : Nat} {e : TypeId} {v : Value} {xs : List Value} (h : w.ownsRow B e k v n xs) (hB : B' ≤ B) : w.ownsRow B' e k v n xs :=
  ⟨h.1, h.2.imp id fun ⟨g, cap, cur, h1, h2, h3⟩ => ⟨g, cap, cur, h1, Nat.le_trans hB h2, h3⟩⟩
/-- A copy of a row of texts. -/
theorem text_part {B : Nat} {W : World} {v : Value} {n : Nat} {l : List (List UInt8)} (hown : W.ownsRow B 9 1 v n (strC l).flatten) (hl : l.length = n) (hn : n < 900000) :
    ∃ v' w3, (Builtin.append_ #[35, 35] 35 #[.slice (some ⟨W.heap.size, 0, none⟩) 0 0, v]).run Tryd.prog (W.alloc (.cells #[] 9)) = .ok v' w3 ∧
      w3.ownsRow W.heap.size 9 1 v' n (strC l).flatten ∧ Below W.heap.size W w3 := by
  have hb0 : Below W.heap.size W (W.alloc (.cells #[] 9)) := (Below.refl _ _).alloc (Nat.le_refl _) _
  have own0 : (W.alloc (.cells #[] 9)).ownsRow W.heap.size 9 1 (.slice (some ⟨W.heap.size, 0, none⟩) 0 0) 0 (strC []).flatten := ⟨rfl, .inr ⟨W.heap.size, 0, #[], rfl, Nat.le_refl _, heap_alloc_new W _, Nat.le_refl _, by unfold maxLen; omega, rfl, rfl⟩⟩
  have hr := rdC_own (ownsRow_kept hown hb0) (elsStr l) (by rw [strC_length]; exact hl) (by omega)
  obtain ⟨A, c, rfl, _⟩ := own_len hown
  obtain ⟨v', w', hrun, h1, h2, h3⟩ := app_own elStr (B := W.heap.size) (by simp) own0 hr (by omega)
  rw [← strC_append, List.nil_append, Nat.zero_add] at h1
  exact ⟨v', w', hrun, h1, hb0.grown h2 (by simp) fun k hk => by
    simp only [Value.ownBlock, Option.some.injEq] at hk
    omega⟩
theorem app_okR {s : SlabS} (h : s.Ok) (cs : List UInt8) : (s.app cs).1.Ok := by
  unfold SlabS.app
  split
  · exact h
  · split
    · exact h
    · rename_i h1 _
      have q1 := h.fits
      have q2 := h.sure
      exact ⟨by show (s.bs ++ cs).length ≤ s.room; rw [List.length_append]; omega, h.room, by show s.sure ≤ (s.bs ++ cs).length; rw [List.length_append]; omega, (decP_in h.lo h.hi).1, (decP_in h.lo h.hi).2⟩
theorem load_slabR {W : World} {g : Nat} {s : SlabS} {v : Value} {l : Nat → UInt8} {dn : Bool} (k : Blk W g 39 (arr 38 (rjF s v l dn))) : (Instr.loadAt 29 (.pointer (some ⟨g, 0, none⟩))).run Tryd.prog W = .ok (.agg (slabA s)) W := by
  have h := run_loadAt_mid W g 0 29 (slabA s).toList _ (fun j x hx => ?_) Tryd.underlying29 rfl (by kernel_rfl)
  · rw [Array.toArray_toList] at h
    exact h
  · rw [Array.getElem?_toList, slabA_arr s v l dn, arr_get] at hx
    by_cases hj : j < 4
    · rw [if_pos hj] at hx
      rw [k.cell, arr_get, if_pos (by omega), Nat.zero_add]
      exact hx
    · rw [if_neg hj] at hx
      cases hx
theorem rj_set37 (s : SlabS) (v : Value) (l : Nat → UInt8) (dn b : Bool) : (arr 38 (rjF s v l dn)).setIfInBounds 37 (.bool b) = arr 38 (rjF s v l b) := by
  apply Array.ext_getElem?
  intro i
  rw [Array.getElem?_setIfInBounds, arr_get, arr_get, arr_size]
  by_cases hi : i < 38
  · match i with
    | 0 => rfl
    | 1 => rfl
    | 2 => rfl
    | 3 => rfl
    | 4 => rfl
    | k + 5 =>
      by_cases h : k = 32
      · subst h
        rfl
      · rw [if_neg (by omega), if_pos hi, if_pos hi]
        show some (if k < 32 then bv (l k) else .bool dn) = some (if k < 32 then bv (l k) else .bool b)
        rw [if_pos (by omega), if_pos (by omega)]
  · rw [if_neg (by omega), if_neg hi, if_neg hi]
/-- Between two steps: the journal in its box, the answer's place behind it. -/
def WrI (w : World) (B : Nat) (sd : SlabS) (v : Value) (l : Nat → UInt8) (dn : Bool) (recs : List (List UInt8)) (W : World) : Prop :=
  Blk W w.heap.size 39 (arr 38 (rjF sd v l dn)) ∧ (∃ z, Blk W (w.heap.size + 1) 39 z ∧ z.size = 38) ∧ Below w.heap.size w W ∧ W.ownsRow B 9 1 v recs.length (strC recs).flatten
section
variable {w W W' : World} {B : Nat} {sd : SlabS} {v : Value} {l : Nat → UInt8} {dn : Bool} {recs : List (List UInt8)}
theorem WrI.below (h : WrI w B sd v l dn recs W) (hb : Below W.heap.size W W') : WrI w B sd v l dn recs W' :=
  ⟨h.1.below hb h.1.lt, h.2.1.elim fun z q => ⟨z, q.1.below hb q.1.lt, q.2⟩, h.2.2.1.trans (hb.mono h.2.2.1.size), ownsRow_kept h.2.2.2 hb⟩
theorem WrI.setRow (h : WrI w B sd v l dn recs W) (sd' : SlabS) (l' : Nat → UInt8) (dn' : Bool) : WrI w B sd' v l' dn' recs (W.setRow w.heap.size (arr 38 (rjF sd' v l' dn'))) :=
  ⟨h.1.setRow _, h.2.1.elim fun z q => ⟨z, q.1.setRow_far (by omega) _, q.2⟩, below_setRow h.2.2.1 (Nat.le_refl _) _, (turn_setRowR W w.heap.size _).own h.2.2.2 fun i hi e => own_neR h.2.2.2 h.1 (by decide) (by rw [hi, e])⟩
theorem WrI.setDown (h : WrI w B sd v l dn recs W) (b : Bool) : WrI w B sd v l b recs (W.setCell ⟨w.heap.size, 37, none⟩ (.bool b)) := by
  have ht : Turn (fun i => i = w.heap.size) W (W.setCell ⟨w.heap.size, 37, none⟩ (.bool b)) := Turn.setCell (S := fun i => i = w.heap.size) (Turn.refl _ W) (p := ⟨w.heap.size, 37, none⟩) (fun _ => rfl) _
  exact ⟨(h.1.store 37 (.bool b)).same (rj_set37 sd v l dn b), h.2.1.elim fun z q => ⟨z, ht.blk q.1 (by omega), q.2⟩, below_turnR h.2.2.1 (Nat.le_refl _) ht (fun i hi => by omega), ht.own h.2.2.2 fun i hi e => own_neR h.2.2.2 h.1 (by decide) (by rw [hi, e])⟩
theorem WrI.setList (h : WrI w B sd v l dn recs W) {B' : Nat} {v' : Value} {recs' : List (List UInt8)} (ho : W.ownsRow B' 9 1 v' recs'.length (strC recs').flatten) (hB : B ≤ B') : WrI w B sd v' l dn recs' (W.setCell ⟨w.heap.size, 4, none⟩ v') := by
  have ht : Turn (fun i => i = w.heap.size) W (W.setCell ⟨w.heap.size, 4, none⟩ v') := Turn.setCell (S := fun i => i = w.heap.size) (Turn.refl _ W) (p := ⟨w.heap.size, 4, none⟩) (fun _ => rfl) _
  exact ⟨(h.1.store 4 v').same (rj_set4 sd v v' l dn), h.2.1.elim fun z q => ⟨z, ht.blk q.1 (by omega), q.2⟩, below_turnR h.2.2.1 (Nat.le_refl _) ht (fun i hi => by omega), ht.own (own_base ho hB) fun i hi e => own_neR ho h.1 (by decide) (by rw [hi, e])⟩
theorem WrI.one (h : WrI w B sd v l dn recs W) : v.oneCell' = true := by
  rcases ownsRow_forms' h.2.2.2 with ⟨rfl, _⟩ | ⟨_, _, rfl⟩ <;> rfl
end
theorem alloc_genR {K : World → Prop} {W : World} {cs : Array Value} {ty : TypeId} (h : ∀ W', Blk W' W.heap.size ty cs → Below W.heap.size W W' → K W') : K (W.alloc (.cells cs ty)) :=
  h _ (Blk.newAt _ _ rfl rfl) ((Below.refl _ _).alloc (Nat.le_refl _) _)
theorem alloc_genRD {K : World → Prop} {W : World} {cs : Array Value} {ty : TypeId} (h : ∀ W', Blk W' W.heap.size ty cs → Below W.heap.size W W' → K W') : K (W.alloc (.cells cs ty)).drew :=
  h _ (Blk.newAt _ _ rfl rfl).drew ((Below.refl _ _).alloc (Nat.le_refl _) _).drew
/-- What it answers. -/
def WOut (w : World) (B : Nat) (v0 : Value) (r : JrnS × SlabS × Int) (e : Ending) (w' : World) : Prop :=
  ∃ v, e = .returned (.tuple #[.agg (arr 38 (rjF r.2.1 v r.1.last r.1.down)), .int .i64 r.2.2]) ∧ Below w.heap.size w w' ∧ w'.ownsRow B 9 1 v r.1.recs.length (strC r.1.recs).flatten ∧ (v = v0 ∨ ∀ i, v.ownBlock = some i → w.heap.size ≤ i)
theorem wr_ret {w W : World} {B : Nat} {sd : SlabS} {v : Value} {l : Nat → UInt8} {dn : Bool} {recs : List (List UInt8)} (h : WrI w B sd v l dn recs W) (cs : Array Value) : Below w.heap.size w (W.setRow (w.heap.size + 1) cs) ∧ (W.setRow (w.heap.size + 1) cs).ownsRow B 9 1 v recs.length (strC recs).flatten := by
  obtain ⟨z, q, _⟩ := h.2.1
  exact ⟨below_setRow h.2.2.1 (by omega) _, (turn_setRowR W (w.heap.size + 1) _).own h.2.2.2 fun i hi e => own_neR h.2.2.2 q (by decide) (by rw [hi, e])⟩
set_option maxRecDepth 100000 in
set_option maxHeartbeats 8000000 in
theorem refWrite_any (s : JrnS) (sd : SlabS) (hs : sd.Ok) (v : Value) (d : List UInt8) (hd : d.length ≤ 262144) (hn : s.recs.length < 900000) (B : Nat) (w : World) (hB : B ≤ w.heap.size) (hown : w.ownsRow B 9 1 v s.recs.length (strC s.recs).flatten) :
    Calls Tryd.prog 15 #[.agg (arr 38 (rjF sd v s.last s.down)), .string ⟨d.toArray⟩] w fun e w' => WOut w B v (writeJ s sd d) e w' := by
  obtain ⟨recs, last, down⟩ := s
  dsimp only at hn hown ⊢
  have hsz : (⟨d.toArray⟩ : ByteArray).size = d.length := ba_len _
  obtain ⟨m, hm⟩ : ∃ m, d.length = m := ⟨_, rfl⟩
  rw [hm] at hsz hd
  have hm1 : (m : Int) ≤ 262144 := by omega
  have HM := Lib.hid hm
  have hv1 : v.oneCell' = true := by
    rcases ownsRow_forms' hown with ⟨rfl, _⟩ | ⟨_, _, rfl⟩ <;> rfl
  obtain ⟨jz, hjz⟩ : ∃ jz, arr 38 (rjF sd v last down) = jz := ⟨_, rfl⟩
  have hj38 : jz.size = 38 := by rw [← hjz, arr_size]
  have hjall : jz.all (·.oneCell') = true := by rw [← hjz]; exact rj_all hv1
  rw [hjz]
  have HJZ := Lib.hid (And.intro hjz (And.intro hj38 hjall))
  have HOWN := Lib.hid hown
  have HS := Lib.hid hs
  have HBN := Lib.hid (And.intro hB hn)
  clear hm hv1 hjz hj38 hjall hown hs hB hn
  go_enter Tryd.func15, Tryd.ntmps15
  go_upto_region 1 with fail
  generalize hW : World.alloc (World.alloc w _) _ = W
  have HI : Hid (WrI w B sd v last down recs W) := Lib.hid (by
    rw [← hW]
    exact ⟨by rw [HJZ.out.1]; exact (Blk.newAt _ _ rfl rfl).alloc _, ⟨_, Blk.newAt _ _ (by simp) rfl, rfl⟩, ((Below.refl _ _).alloc (Nat.le_refl _) _).alloc (by simp) _, ownsRow_kept HOWN.out (((Below.refl _ _).alloc (Nat.le_refl _) _).alloc (by simp) _)⟩)
  have c37 : W.cell? ⟨w.heap.size, 37, none⟩ = some (.bool down) := by rw [HI.out.1.cell, arr_get, if_pos (by omega)]; rfl
  clear hW
  cases down with
  | true =>
    have HE : Hid (writeJ ⟨recs, last, true⟩ sd d = (⟨recs, last, true⟩, sd, 90)) := Lib.hid (by unfold writeJ; rw [if_pos rfl])
    obtain ⟨z4, k4, hz4⟩ := HI.out.2.1
    have k2 := HI.out.1
    rw [HJZ.out.1] at k2
    go_wp2_with (first
      | (guard_target = wpList _ _ _ (Oper.mk _ (.load 39 _) _ _ _ _ :: _) _ _; refine wpList_load_row rfl 39 _ rfl w.heap.size rfl 39 jz (0, 0) _ k2 Tryd.underlying39 rfl (by rw [HJZ.out.2.1]; kernel_rfl) ?_)
      | (guard_target = wpList _ _ _ (Oper.mk _ (.store 39 _ _) _ _ _ _ :: _) _ _; refine wpList_store_row rfl 39 _ _ rfl (w.heap.size + 1) jz rfl rfl 39 _ k4 (by rw [HJZ.out.2.1]; kernel_rfl) (by rw [HJZ.out.2.1, hz4]) HJZ.out.2.2 ?_))
    refine bodyPost_ret (results_cell_tmp (p := 4) (q := 5) rfl _ _ (w.heap.size + 1) _ _ _ rfl (k4.setRow _) Tryd.underlying39 rfl (by rw [HJZ.out.2.1]; kernel_rfl)) rfl ?_
    rw [HE.out, ← HJZ.out.1]
    exact ⟨v, rfl, (wr_ret HI.out _).1, (wr_ret HI.out _).2, .inl rfl⟩
  | false =>
    have HRB : Hid ((recB last d).length ≤ 1048576) := Lib.hid (by rw [recB_length, HM.out]; omega)
    have HREC := Lib.hid (refRecord_any last d (by rw [HM.out]; omega))
    have HLNK := Lib.hid (refLink_any last d (by rw [HM.out]; omega))
    have HAPP := Lib.hid (refAppend_any sd HS.out (recB last d) HRB.out)
    have HOK1 := Lib.hid (app_okR HS.out (recB last d))
    have HAC := app_code sd (recB last d)
    have HWE : Hid (writeJ ⟨recs, last, false⟩ sd d = if (sd.lay (recB last d)).2 = 0 then (⟨recs ++ [d], withD last d, false⟩, (sd.lay (recB last d)).1, 0)
        else if (sd.lay (recB last d)).2 = 90 then (⟨recs, last, true⟩, (sd.lay (recB last d)).1, 90) else (⟨recs, last, false⟩, (sd.lay (recB last d)).1, (sd.lay (recB last d)).2)) := Lib.hid (by
      unfold writeJ
      rw [if_neg (show ¬ (false = true) by decide), if_neg (by rw [HM.out]; omega)])
    have HLA : Hid (sd.lay (recB last d) = if (sd.app (recB last d)).2 = 0 then (sd.app (recB last d)).1.sync else sd.app (recB last d)) := Lib.hid rfl
    obtain ⟨rb, hrb⟩ : ∃ rb, recB last d = rb := ⟨_, rfl⟩
    rw [hrb] at HREC HAPP HOK1 HAC HWE HLA
    obtain ⟨sd1, hsd1⟩ : ∃ z, (sd.app rb).1 = z := ⟨_, rfl⟩
    obtain ⟨e1, he1⟩ : ∃ z, (sd.app rb).2 = z := ⟨_, rfl⟩
    rw [hsd1] at HAPP HOK1 HLA
    rw [he1] at HAPP HAC HLA
    obtain ⟨s1v, hs1v⟩ : ∃ z, slabA sd1 = z := ⟨_, rfl⟩
    have HS1 : Hid (slabA sd1 = s1v ∧ s1v.size = 4 ∧ s1v.all (·.oneCell') = true) := Lib.hid ⟨hs1v, by rw [← hs1v]; rfl, by rw [← hs1v]; exact slabA_all _⟩
    rw [show sd1.v = .agg (slabA sd1) from rfl, hs1v] at HAPP
    have HLL := Lib.hid (fun W' (hb : Below W.heap.size W W') => load_lastR (HI.out.below hb).1)
    have HLS := Lib.hid (fun W' (hb : Below W.heap.size W W') => load_slabR (HI.out.below hb).1)
    obtain ⟨sv, hsv⟩ : ∃ z, slabA sd = z := ⟨_, rfl⟩
    rw [show sd.v = .agg (slabA sd) from rfl, hsv] at HAPP
    rw [hsv] at HLS
    obtain ⟨lr, hlr⟩ : ∃ z, (arr 32 fun i => bv (last i)) = z := ⟨_, rfl⟩
    rw [hlr] at HREC HLL
    have HLR := Lib.hid hlr
    have HSD1 : Hid (sd.app rb = (sd1, e1)) := Lib.hid (by rw [← hsd1, ← he1])
    clear hrb hsd1 he1 hs1v hsv hlr
    go_upto_region 5 with fail
    have hbX : Below W.heap.size W W.drew := (Below.refl _ _).drew
    rcases HAC with rfl | rfl | rfl
    · refine wp_region_held_drew (S := fun W' => Below W.heap.size W W') (by kernel_rfl) ?_ (fun hHeld => ?_)
      · exact hbX
      refine wpAnyH_take (i := 0) (oi := ⟨some 17, _, _, _, _, _⟩) (v := ?_) rfl (by kernel_rfl) (by kernel_rfl) (by kernel_rfl) (fun _ _ _ h => h) (Or.inl ⟨by rfl, ?_⟩) (by assumption) ?_
      rotate_left
      · intro w hSw; (try dsimp only at hSw); go_simp; try (with_reducible rfl)
      rotate_left 0
      try simp only [Act.put, List.setIfInBounds_toArray, List.set_cons_zero, List.set_cons_succ]
      refine wpAnyH_take (i := 1) (oi := ⟨some 18, _, _, _, _, _⟩) (v := (.agg sv)) rfl (by kernel_rfl) (by kernel_rfl) (by kernel_rfl) (fun _ _ _ h => h) (yields_loadR (by rfl) 29 _ rfl (.pointer (some ⟨w.heap.size, 0, none⟩)) rfl _ (fun W' hS => HLS.out W' hS)) (by assumption) ?_
      try simp only [Act.put, List.setIfInBounds_toArray, List.set_cons_zero, List.set_cons_succ]
      refine wpAnyH_take (i := 2) (oi := ⟨some 19, _, _, _, _, _⟩) (v := ?_) rfl (by kernel_rfl) (by kernel_rfl) (by kernel_rfl) (fun _ _ _ h => h) (Or.inl ⟨by rfl, ?_⟩) (by assumption) ?_
      rotate_left
      · intro w hSw; (try dsimp only at hSw); go_simp; try (with_reducible rfl)
      rotate_left 0
      try simp only [Act.put, List.setIfInBounds_toArray, List.set_cons_zero, List.set_cons_succ]
      refine wpAnyH_take (i := 3) (oi := ⟨some 20, _, _, _, _, _⟩) (v := (.agg lr)) rfl (by kernel_rfl) (by kernel_rfl) (by kernel_rfl) (fun _ _ _ h => h) (yields_loadR (by rfl) 37 _ rfl (.pointer (some ⟨w.heap.size, 5, none⟩)) rfl _ (fun W' hS => HLL.out W' hS)) (by assumption) ?_
      try simp only [Act.put, List.setIfInBounds_toArray, List.set_cons_zero, List.set_cons_succ]
      refine wpAnyH_take (i := 4) (oi := ⟨some 21, _, _, _, _, _⟩) (v := ?_) rfl (by kernel_rfl) (by kernel_rfl) (by kernel_rfl) (fun _ _ _ h => h) (Or.inl ⟨by rfl, ?_⟩) (by assumption) ?_
      rotate_left
      · intro w hSw; (try dsimp only at hSw); go_simp; try (with_reducible rfl)
      rotate_left 0
      try simp only [Act.put, List.setIfInBounds_toArray, List.set_cons_zero, List.set_cons_succ]
      refine wpAnyH_ready (rs := [5, 10]) (by kernel_rfl) (by simp) ?_
      refine (AllReadyH.cons (o := ⟨some 22, _, _, _, _, _⟩) rfl (fun K hK => ?_) (AllReadyH.cons (o := ⟨some 6, _, _, _, _, _⟩) rfl (fun K hK => ?_) AllReadyH.nil))
      · (try rw [if_pos (by rfl)])
        go_simp
        refine (HREC.out _).mono ?_
        rintro e Wc ⟨rfl, hbc⟩
        replace hbX := hbX.trans (hbc.mono hbX.size)
        (try replace hka := Blk.below hka hbc (Blk.lt hka))
        clear hbc
        try dsimp only
        refine hK.out _ _ (hbX) (fun hHeld => ?_)
        clear hK K
        try simp only [Act.put, List.setIfInBounds_toArray, List.set_cons_zero, List.set_cons_succ]
        refine wpAnyH_ready (rs := [6, 10]) (by kernel_rfl) (by simp) ?_
        refine (AllReadyH.cons (o := ⟨some 23, _, _, _, _, _⟩) rfl (fun K hK => ?_) (AllReadyH.cons (o := ⟨some 6, _, _, _, _, _⟩) rfl (fun K hK => ?_) AllReadyH.nil))
        · (try rw [if_pos (by rfl)])
          go_simp
          refine (HAPP.out _).mono ?_
          rintro e Wc ⟨rfl, hbc⟩
          replace hbX := hbX.trans (hbc.mono hbX.size)
          (try replace hka := Blk.below hka hbc (Blk.lt hka))
          clear hbc
          try dsimp only
          refine hK.out _ _ (hbX) (fun hHeld => ?_)
          clear hK K
          try simp only [Act.put, List.setIfInBounds_toArray, List.set_cons_zero, List.set_cons_succ]
          refine wpAnyH_take (i := 7) (oi := ⟨some 16, _, _, _, _, _⟩) (v := ?_) rfl (by kernel_rfl) (by kernel_rfl) (by kernel_rfl) (fun _ _ _ h => h) (Or.inl ⟨by rfl, ?_⟩) (by assumption) ?_
          rotate_left
          · intro w hSw; (try dsimp only at hSw); go_simp; try (with_reducible rfl)
          rotate_left 0
          try simp only [Act.put, List.setIfInBounds_toArray, List.set_cons_zero, List.set_cons_succ]
          refine wpAnyH_take (i := 8) (oi := ⟨some 24, _, _, _, _, _⟩) (v := ?_) rfl (by kernel_rfl) (by kernel_rfl) (by kernel_rfl) (fun _ _ _ h => h) (Or.inl ⟨by rfl, ?_⟩) (by assumption) ?_
          rotate_left
          · intro w hSw; (try dsimp only at hSw); go_simp; try (with_reducible rfl)
          rotate_left 0
          try simp only [Act.put, List.setIfInBounds_toArray, List.set_cons_zero, List.set_cons_succ]
          refine wpAnyH_take (i := 9) (oi := ⟨some 25, _, _, _, _, _⟩) (v := ?_) rfl (by kernel_rfl) (by kernel_rfl) (by kernel_rfl) (fun _ _ _ h => h) (Or.inl ⟨by rfl, ?_⟩) (by assumption) ?_
          rotate_left
          · intro w hSw; (try dsimp only at hSw); go_simp; try (with_reducible rfl)
          rotate_left 0
          try simp only [Act.put, List.setIfInBounds_toArray, List.set_cons_zero, List.set_cons_succ]
          refine wpAnyH_ready (rs := [10]) (by kernel_rfl) (by simp) ?_
          refine (AllReadyH.cons (o := ⟨some 6, _, _, _, _, _⟩) rfl (fun K hK => ?_) AllReadyH.nil)
          (try rw [if_pos (by rfl)])
          go_simp
          first | refine alloc_genR ?_ | refine alloc_genRD ?_
          intro Wa hka hba
          have hg6 := hbX.size
          replace hbX : Below W.heap.size W Wa := by first | exact hbX.trans (hba.mono hbX.size) | exact hba
          clear hba
          try dsimp only
          refine hK.out _ _ (hbX) (fun hHeld => ?_)
          clear hK K
          try simp only [Act.put, List.setIfInBounds_toArray, List.set_cons_zero, List.set_cons_succ]
          refine wpAnyH_ready (rs := [11]) (by kernel_rfl) (by simp) ?_
          refine (AllReadyH.cons (o := ⟨none, _, _, _, _, _⟩) rfl (fun K hK => ?_) AllReadyH.nil)
          (try rw [if_pos (by rfl)])
          refine wp_store_row 29 _ _ rfl _ s1v rfl rfl 29 _ hka (by rw [HS1.out.2.1]; kernel_rfl) (by rw [HS1.out.2.1]; rfl) HS1.out.2.2 ?_
          replace hka := Blk.setRow hka s1v
          replace hbX := below_setRow hbX hg6 s1v
          try simp only [Act.put]
          try dsimp only
          refine hK.out _ _ (hbX) (fun hHeld => ?_)
          clear hK K
          try simp only [Act.put, List.setIfInBounds_toArray, List.set_cons_zero, List.set_cons_succ]
          refine wpAnyH_take (i := 12) (oi := ⟨some 7, _, _, _, _, _⟩) (v := ?_) rfl (by kernel_rfl) (by kernel_rfl) (by kernel_rfl) (fun _ _ _ h => h) (Or.inl ⟨by rfl, ?_⟩) (by assumption) ?_
          rotate_left
          · intro w hSw; (try dsimp only at hSw); go_simp; try (with_reducible rfl)
          rotate_left 0
          try simp only [Act.put, List.setIfInBounds_toArray, List.set_cons_zero, List.set_cons_succ]
          refine wpAnyH_done (by kernel_rfl) ?_ _
          have HI5 := Lib.hid (HI.out.below hbX)
          clear hbX hg6
          go_upto_region 7 with (first
            | (guard_target = wpList _ _ _ (Oper.mk _ (.load 29 _) _ _ _ _ :: _) _ _; refine wpList_load_row rfl 29 _ rfl _ rfl 29 s1v (0, 0) _ hka Tryd.underlying29 rfl (by rw [HS1.out.2.1]; kernel_rfl) ?_)
            | (guard_target = wpList _ _ _ (Oper.mk _ (.store 29 _ _) _ _ _ _ :: _) _ _; refine wpList_store_partJ rfl 29 _ _ rfl w.heap.size 0 4 38 (rjF sd v last false) (rjF sd1 v last false) rfl (show _ = Value.agg (arr 4 (rjF sd1 v last false)) by rw [← slabA_arr, HS1.out.1]; rfl) 39 HI5.out.1 (by kernel_rfl) (by omega) (fun j hj => rj_one4 hj) ?_; intro w7 hw7; rw [rj_put] at hw7; have HI7 : Hid (WrI w B sd1 v last false recs w7) := Lib.hid (by rw [hw7]; exact HI5.out.setRow sd1 last false); clear hw7))
          have HSYN := Lib.hid (refSync_any sd1 HOK1.out)
          have HSC := sync_code sd1
          obtain ⟨sd2, hsd2⟩ : ∃ z, sd1.sync.1 = z := ⟨_, rfl⟩
          obtain ⟨e2, he2⟩ : ∃ z, sd1.sync.2 = z := ⟨_, rfl⟩
          rw [hsd2, he2] at HSYN
          rw [he2] at HSC
          obtain ⟨s2v, hs2v⟩ : ∃ z, slabA sd2 = z := ⟨_, rfl⟩
          have HS2 : Hid (slabA sd2 = s2v ∧ s2v.size = 4 ∧ s2v.all (·.oneCell') = true) := Lib.hid ⟨hs2v, by rw [← hs2v]; rfl, by rw [← hs2v]; exact slabA_all _⟩
          rw [show sd2.v = .agg (slabA sd2) from rfl, hs2v, show sd1.v = .agg (slabA sd1) from rfl, HS1.out.1] at HSYN
          have HLS1 := Lib.hid (load_slabR HI7.out.1)
          rw [HS1.out.1] at HLS1
          have HLY : Hid (sd.lay rb = (sd2, e2)) := Lib.hid (by rw [HLA.out, if_pos rfl, ← hsd2, ← he2])
          clear hsd2 he2 hs2v
          go_upto_region 9 with (first
            | (guard_target = wpList _ _ _ (Oper.mk _ (.load 29 _) _ _ _ _ :: _) _ _; refine wpList_load_runT (by rfl) 29 _ rfl (.pointer (some ⟨w.heap.size, 0, none⟩)) (.agg s1v) rfl HLS1.out ?_)
            | (go_at_call 39; refine (HSYN.out _).mono ?_; rintro e W8 ⟨rfl, hb8⟩; have HI8 := Lib.hid (HI7.out.below hb8); clear hb8)
            | (guard_target = wpList _ _ _ (Oper.mk _ (.store 29 _ _) _ _ _ _ :: _) _ _; refine wpList_store_partJ rfl 29 _ _ rfl w.heap.size 0 4 38 (rjF sd1 v last false) (rjF sd2 v last false) rfl (show _ = Value.agg (arr 4 (rjF sd2 v last false)) by rw [← slabA_arr, HS2.out.1]; rfl) 39 HI8.out.1 (by kernel_rfl) (by omega) (fun j hj => rj_one4 hj) ?_; intro w7 hw7; rw [rj_put] at hw7; have HI9 : Hid (WrI w B sd2 v last false recs w7) := Lib.hid (by rw [hw7]; exact HI8.out.setRow sd2 last false); clear hw7))
          rcases HSC with rfl | rfl
          · have HE : Hid (writeJ ⟨recs, last, false⟩ sd d = (⟨recs ++ [d], withD last d, false⟩, sd2, 0)) := Lib.hid (by rw [HWE.out, HLY.out]; dsimp only; rw [if_pos rfl])
            obtain ⟨v9, W9, hrun9, own9, hb9⟩ := text_part HI9.out.2.2.2 rfl HBN.out.2
            obtain ⟨v10, W10, hrun10, own10, hgr10, hat10⟩ := app_text hb9.size own9 d HBN.out.2
            have hb910 : Below w7.heap.size w7 W10 := hb9.grown hgr10 hb9.size (fun b hb => (own9.lt b hb).1)
            have HI10 := Lib.hid (HI9.out.below hb910)
            have c4a : (w7.alloc (.cells #[] 9)).cell? ⟨w.heap.size, 4, none⟩ = some v := by
              rw [((HI9.out.1).alloc _).cell, arr_get, if_pos (by omega)]
              rfl
            have d4 : W10.cell? ⟨w.heap.size, 4, none⟩ = some v := by rw [HI10.out.1.cell, arr_get, if_pos (by omega)]; rfl
            have f4 := HI10.out.1.frozen 4
            have h10 : v10.oneCell' = true := by
              rcases ownsRow_forms' own10 with ⟨rfl, _⟩ | ⟨_, _, rfl⟩ <;> rfl
            obtain ⟨Av, cv, rfl, _⟩ := own_len own10
            have HV10 : Hid (∀ i, (Value.slice Av (recs.length + 1) cv).ownBlock = some i → w.heap.size ≤ i) := Lib.hid fun i hi => Nat.le_trans HI9.out.2.2.1.size (own10.lt i hi).1
            have HR9 := Lib.hid hrun9
            have HR10 := Lib.hid hrun10
            have HW10 : Hid (WrI w B sd2 (.slice Av (recs.length + 1) cv) last false (recs ++ [d]) (W10.setCell ⟨w.heap.size, 4, none⟩ (.slice Av (recs.length + 1) cv))) := Lib.hid (HI10.out.setList (by rw [List.length_append, List.length_singleton]; exact own10) (Nat.le_trans HBN.out.1 HI9.out.2.2.1.size))
            clear hrun9 own9 hb9 hrun10 own10 hgr10 hat10 hb910 h10
            go_upto_region 13 with (at_builtin; refine wpList_append_run rfl (.tmp 44) (.tmp 46) _ _ rfl _ _ rfl rfl _ _ HR9.out ?_)
            clear c4a
            go_upto_region 14 with (at_builtin; refine wpList_append_run rfl (.tmp 48) (.tmp 50) _ _ rfl _ _ rfl rfl _ _ HR10.out ?_)
            clear d4 f4
            obtain ⟨W11, hW11⟩ : ∃ z, W10.setCell ⟨w.heap.size, 4, none⟩ (.slice Av (recs.length + 1) cv) = z := ⟨_, rfl⟩
            rw [hW11] at HW10 ⊢
            clear hW11
            have HL11 := Lib.hid (load_lastR HW10.out.1)
            rw [HLR.out] at HL11
            obtain ⟨la, hla⟩ : ∃ z, withD last d = z := ⟨_, rfl⟩
            rw [hla] at HLNK HE
            rw [HLR.out] at HLNK
            clear hla
            go_upto_region 15 with (first
              | (guard_target = wpList _ _ _ (Oper.mk _ (.load 37 _) _ _ _ _ :: _) _ _; refine wpList_load_runT (by rfl) 37 _ rfl (.pointer (some ⟨w.heap.size, 5, none⟩)) (.agg lr) rfl HL11.out ?_)
              | (go_at_call 29; refine (HLNK.out W11).mono ?_; rintro e W12 ⟨rfl, hb12⟩; have HI12 := Lib.hid (HW10.out.below hb12); clear hb12)
              | (guard_target = wpList _ _ _ (Oper.mk _ (.store 37 _ _) _ _ _ _ :: _) _ _; refine wpList_store_partJ rfl 37 _ _ rfl w.heap.size 5 32 38 (rjF sd2 (.slice Av (recs.length + 1) cv) last false) (fun i => bv (la i)) rfl rfl 39 HI12.out.1 (by kernel_rfl) (by omega) (fun j hj => rfl) ?_; intro wx hwx; rw [rj_lastR] at hwx; have HI13 : Hid (WrI w B sd2 (.slice Av (recs.length + 1) cv) la false (recs ++ [d]) wx) := Lib.hid (by rw [hwx]; exact HI12.out.setRow sd2 la false); clear hwx))
            have hjv := rj_all (s := sd2) (l := la) (dn := false) HI13.out.one
            obtain ⟨z4, k4, hz4⟩ := HI13.out.2.1
            have k2 := HI13.out.1
            go_wp2_with (first
              | (guard_target = wpList _ _ _ (Oper.mk _ (.load 39 _) _ _ _ _ :: _) _ _; refine wpList_load_row rfl 39 _ rfl w.heap.size rfl 39 _ (0, 0) _ k2 Tryd.underlying39 rfl (by rw [arr_size]; kernel_rfl) ?_)
              | (guard_target = wpList _ _ _ (Oper.mk _ (.store 39 _ _) _ _ _ _ :: _) _ _; refine wpList_store_row rfl 39 _ _ rfl (w.heap.size + 1) (arr 38 (rjF sd2 (.slice Av (recs.length + 1) cv) la false)) rfl rfl 39 _ k4 (by rw [arr_size]; kernel_rfl) (by rw [arr_size, hz4]) hjv ?_))
            refine bodyPost_ret (results_cell_tmp (p := 4) (q := 5) rfl _ _ (w.heap.size + 1) _ _ _ rfl (k4.setRow _) Tryd.underlying39 rfl (by rw [arr_size]; kernel_rfl)) rfl ?_
            rw [HE.out]
            exact ⟨(.slice Av (recs.length + 1) cv), rfl, (wr_ret HI13.out _).1, (wr_ret HI13.out _).2, .inr HV10.out⟩
          · have HE : Hid (writeJ ⟨recs, last, false⟩ sd d = (⟨recs, last, true⟩, sd2, 90)) := Lib.hid (by rw [HWE.out, HLY.out]; dsimp only; rw [if_neg (show ¬ (90 : Int) = 0 by decide), if_pos rfl])
            have c37d : w7.cell? ⟨w.heap.size, 37, none⟩ = some (.bool false) := by rw [HI9.out.1.cell, arr_get, if_pos (by omega)]; rfl
            have f37 := HI9.out.1.frozen 37
            go_upto_region 11 with fail
            obtain ⟨W9, hW9⟩ : ∃ z, w7.setCell ⟨w.heap.size, 37, none⟩ (.bool true) = z := ⟨_, rfl⟩
            rw [hW9]
            have HI10 : Hid (WrI w B sd2 v last true recs W9) := Lib.hid (by rw [← hW9]; exact HI9.out.setDown true)
            clear hW9 c37d f37
            have hjv := rj_all (s := sd2) (l := last) (dn := true) HI10.out.one
            obtain ⟨z4, k4, hz4⟩ := HI10.out.2.1
            have k2 := HI10.out.1
            go_wp2_with (first
              | (guard_target = wpList _ _ _ (Oper.mk _ (.load 39 _) _ _ _ _ :: _) _ _; refine wpList_load_row rfl 39 _ rfl w.heap.size rfl 39 _ (0, 0) _ k2 Tryd.underlying39 rfl (by rw [arr_size]; kernel_rfl) ?_)
              | (guard_target = wpList _ _ _ (Oper.mk _ (.store 39 _ _) _ _ _ _ :: _) _ _; refine wpList_store_row rfl 39 _ _ rfl (w.heap.size + 1) (arr 38 (rjF sd2 v last true)) rfl rfl 39 _ k4 (by rw [arr_size]; kernel_rfl) (by rw [arr_size, hz4]) hjv ?_))
            refine bodyPost_ret (results_cell_tmp (p := 4) (q := 5) rfl _ _ (w.heap.size + 1) _ _ _ rfl (k4.setRow _) Tryd.underlying39 rfl (by rw [arr_size]; kernel_rfl)) rfl ?_
            rw [HE.out]
            exact ⟨v, rfl, (wr_ret HI10.out _).1, (wr_ret HI10.out _).2, .inl rfl⟩
        · (try rw [if_pos (by rfl)])
          go_simp
          first | refine alloc_genR ?_ | refine alloc_genRD ?_
          intro Wa hka hba
          have hg6 := hbX.size
          replace hbX : Below W.heap.size W Wa := by first | exact hbX.trans (hba.mono hbX.size) | exact hba
          clear hba
          try dsimp only
          refine hK.out _ _ (hbX) (fun hHeld => ?_)
          clear hK K
          try simp only [Act.put, List.setIfInBounds_toArray, List.set_cons_zero, List.set_cons_succ]
          refine wpAnyH_ready (rs := [6]) (by kernel_rfl) (by simp) ?_
          refine (AllReadyH.cons (o := ⟨some 23, _, _, _, _, _⟩) rfl (fun K hK => ?_) AllReadyH.nil)
          (try rw [if_pos (by rfl)])
          go_simp
          refine (HAPP.out _).mono ?_
          rintro e Wc ⟨rfl, hbc⟩
          replace hbX := hbX.trans (hbc.mono hbX.size)
          (try replace hka := Blk.below hka hbc (Blk.lt hka))
          clear hbc
          try dsimp only
          refine hK.out _ _ (hbX) (fun hHeld => ?_)
          clear hK K
          try simp only [Act.put, List.setIfInBounds_toArray, List.set_cons_zero, List.set_cons_succ]
          refine wpAnyH_take (i := 7) (oi := ⟨some 16, _, _, _, _, _⟩) (v := ?_) rfl (by kernel_rfl) (by kernel_rfl) (by kernel_rfl) (fun _ _ _ h => h) (Or.inl ⟨by rfl, ?_⟩) (by assumption) ?_
          rotate_left
          · intro w hSw; (try dsimp only at hSw); go_simp; try (with_reducible rfl)
          rotate_left 0
          try simp only [Act.put, List.setIfInBounds_toArray, List.set_cons_zero, List.set_cons_succ]
          refine wpAnyH_take (i := 8) (oi := ⟨some 24, _, _, _, _, _⟩) (v := ?_) rfl (by kernel_rfl) (by kernel_rfl) (by kernel_rfl) (fun _ _ _ h => h) (Or.inl ⟨by rfl, ?_⟩) (by assumption) ?_
          rotate_left
          · intro w hSw; (try dsimp only at hSw); go_simp; try (with_reducible rfl)
          rotate_left 0
          try simp only [Act.put, List.setIfInBounds_toArray, List.set_cons_zero, List.set_cons_succ]
          refine wpAnyH_take (i := 9) (oi := ⟨some 25, _, _, _, _, _⟩) (v := ?_) rfl (by kernel_rfl) (by kernel_rfl) (by kernel_rfl) (fun _ _ _ h => h) (Or.inl ⟨by rfl, ?_⟩) (by assumption) ?_
          rotate_left
          · intro w hSw; (try dsimp only at hSw); go_simp; try (with_reducible rfl)
          rotate_left 0
          try simp only [Act.put, List.setIfInBounds_toArray, List.set_cons_zero, List.set_cons_succ]
          refine wpAnyH_ready (rs := [11]) (by kernel_rfl) (by simp) ?_
          refine (AllReadyH.cons (o := ⟨none, _, _, _, _, _⟩) rfl (fun K hK => ?_) AllReadyH.nil)
          (try rw [if_pos (by rfl)])
          refine wp_store_row 29 _ _ rfl _ s1v rfl rfl 29 _ hka (by rw [HS1.out.2.1]; kernel_rfl) (by rw [HS1.out.2.1]; rfl) HS1.out.2.2 ?_
          replace hka := Blk.setRow hka s1v
          replace hbX := below_setRow hbX hg6 s1v
          try simp only [Act.put]
          try dsimp only
          refine hK.out _ _ (hbX) (fun hHeld => ?_)
          clear hK K
          try simp only [Act.put, List.setIfInBounds_toArray, List.set_cons_zero, List.set_cons_succ]
          refine wpAnyH_take (i := 12) (oi := ⟨some 7, _, _, _, _, _⟩) (v := ?_) rfl (by kernel_rfl) (by kernel_rfl) (by kernel_rfl) (fun _ _ _ h => h) (Or.inl ⟨by rfl, ?_⟩) (by assumption) ?_
          rotate_left
          · intro w hSw; (try dsimp only at hSw); go_simp; try (with_reducible rfl)
          rotate_left 0
          try simp only [Act.put, List.setIfInBounds_toArray, List.set_cons_zero, List.set_cons_succ]
          refine wpAnyH_done (by kernel_rfl) ?_ _
          have HI5 := Lib.hid (HI.out.below hbX)
          clear hbX hg6
          go_upto_region 7 with (first
            | (guard_target = wpList _ _ _ (Oper.mk _ (.load 29 _) _ _ _ _ :: _) _ _; refine wpList_load_row rfl 29 _ rfl _ rfl 29 s1v (0, 0) _ hka Tryd.underlying29 rfl (by rw [HS1.out.2.1]; kernel_rfl) ?_)
            | (guard_target = wpList _ _ _ (Oper.mk _ (.store 29 _ _) _ _ _ _ :: _) _ _; refine wpList_store_partJ rfl 29 _ _ rfl w.heap.size 0 4 38 (rjF sd v last false) (rjF sd1 v last false) rfl (show _ = Value.agg (arr 4 (rjF sd1 v last false)) by rw [← slabA_arr, HS1.out.1]; rfl) 39 HI5.out.1 (by kernel_rfl) (by omega) (fun j hj => rj_one4 hj) ?_; intro w7 hw7; rw [rj_put] at hw7; have HI7 : Hid (WrI w B sd1 v last false recs w7) := Lib.hid (by rw [hw7]; exact HI5.out.setRow sd1 last false); clear hw7))
          have HSYN := Lib.hid (refSync_any sd1 HOK1.out)
          have HSC := sync_code sd1
          obtain ⟨sd2, hsd2⟩ : ∃ z, sd1.sync.1 = z := ⟨_, rfl⟩
          obtain ⟨e2, he2⟩ : ∃ z, sd1.sync.2 = z := ⟨_, rfl⟩
          rw [hsd2, he2] at HSYN
          rw [he2] at HSC
          obtain ⟨s2v, hs2v⟩ : ∃ z, slabA sd2 = z := ⟨_, rfl⟩
          have HS2 : Hid (slabA sd2 = s2v ∧ s2v.size = 4 ∧ s2v.all (·.oneCell') = true) := Lib.hid ⟨hs2v, by rw [← hs2v]; rfl, by rw [← hs2v]; exact slabA_all _⟩
          rw [show sd2.v = .agg (slabA sd2) from rfl, hs2v, show sd1.v = .agg (slabA sd1) from rfl, HS1.out.1] at HSYN
          have HLS1 := Lib.hid (load_slabR HI7.out.1)
          rw [HS1.out.1] at HLS1
          have HLY : Hid (sd.lay rb = (sd2, e2)) := Lib.hid (by rw [HLA.out, if_pos rfl, ← hsd2, ← he2])
          clear hsd2 he2 hs2v
          go_upto_region 9 with (first
            | (guard_target = wpList _ _ _ (Oper.mk _ (.load 29 _) _ _ _ _ :: _) _ _; refine wpList_load_runT (by rfl) 29 _ rfl (.pointer (some ⟨w.heap.size, 0, none⟩)) (.agg s1v) rfl HLS1.out ?_)
            | (go_at_call 39; refine (HSYN.out _).mono ?_; rintro e W8 ⟨rfl, hb8⟩; have HI8 := Lib.hid (HI7.out.below hb8); clear hb8)
            | (guard_target = wpList _ _ _ (Oper.mk _ (.store 29 _ _) _ _ _ _ :: _) _ _; refine wpList_store_partJ rfl 29 _ _ rfl w.heap.size 0 4 38 (rjF sd1 v last false) (rjF sd2 v last false) rfl (show _ = Value.agg (arr 4 (rjF sd2 v last false)) by rw [← slabA_arr, HS2.out.1]; rfl) 39 HI8.out.1 (by kernel_rfl) (by omega) (fun j hj => rj_one4 hj) ?_; intro w7 hw7; rw [rj_put] at hw7; have HI9 : Hid (WrI w B sd2 v last false recs w7) := Lib.hid (by rw [hw7]; exact HI8.out.setRow sd2 last false); clear hw7))
          rcases HSC with rfl | rfl
          · have HE : Hid (writeJ ⟨recs, last, false⟩ sd d = (⟨recs ++ [d], withD last d, false⟩, sd2, 0)) := Lib.hid (by rw [HWE.out, HLY.out]; dsimp only; rw [if_pos rfl])
            obtain ⟨v9, W9, hrun9, own9, hb9⟩ := text_part HI9.out.2.2.2 rfl HBN.out.2
            obtain ⟨v10, W10, hrun10, own10, hgr10, hat10⟩ := app_text hb9.size own9 d HBN.out.2
            have hb910 : Below w7.heap.size w7 W10 := hb9.grown hgr10 hb9.size (fun b hb => (own9.lt b hb).1)
            have HI10 := Lib.hid (HI9.out.below hb910)
            have c4a : (w7.alloc (.cells #[] 9)).cell? ⟨w.heap.size, 4, none⟩ = some v := by
              rw [((HI9.out.1).alloc _).cell, arr_get, if_pos (by omega)]
              rfl
            have d4 : W10.cell? ⟨w.heap.size, 4, none⟩ = some v := by rw [HI10.out.1.cell, arr_get, if_pos (by omega)]; rfl
            have f4 := HI10.out.1.frozen 4
            have h10 : v10.oneCell' = true := by
              rcases ownsRow_forms' own10 with ⟨rfl, _⟩ | ⟨_, _, rfl⟩ <;> rfl
            obtain ⟨Av, cv, rfl, _⟩ := own_len own10
            have HV10 : Hid (∀ i, (Value.slice Av (recs.length + 1) cv).ownBlock = some i → w.heap.size ≤ i) := Lib.hid fun i hi => Nat.le_trans HI9.out.2.2.1.size (own10.lt i hi).1
            have HR9 := Lib.hid hrun9
            have HR10 := Lib.hid hrun10
            have HW10 : Hid (WrI w B sd2 (.slice Av (recs.length + 1) cv) last false (recs ++ [d]) (W10.setCell ⟨w.heap.size, 4, none⟩ (.slice Av (recs.length + 1) cv))) := Lib.hid (HI10.out.setList (by rw [List.length_append, List.length_singleton]; exact own10) (Nat.le_trans HBN.out.1 HI9.out.2.2.1.size))
            clear hrun9 own9 hb9 hrun10 own10 hgr10 hat10 hb910 h10
            go_upto_region 13 with (at_builtin; refine wpList_append_run rfl (.tmp 44) (.tmp 46) _ _ rfl _ _ rfl rfl _ _ HR9.out ?_)
            clear c4a
            go_upto_region 14 with (at_builtin; refine wpList_append_run rfl (.tmp 48) (.tmp 50) _ _ rfl _ _ rfl rfl _ _ HR10.out ?_)
            clear d4 f4
            obtain ⟨W11, hW11⟩ : ∃ z, W10.setCell ⟨w.heap.size, 4, none⟩ (.slice Av (recs.length + 1) cv) = z := ⟨_, rfl⟩
            rw [hW11] at HW10 ⊢
            clear hW11
            have HL11 := Lib.hid (load_lastR HW10.out.1)
            rw [HLR.out] at HL11
            obtain ⟨la, hla⟩ : ∃ z, withD last d = z := ⟨_, rfl⟩
            rw [hla] at HLNK HE
            rw [HLR.out] at HLNK
            clear hla
            go_upto_region 15 with (first
              | (guard_target = wpList _ _ _ (Oper.mk _ (.load 37 _) _ _ _ _ :: _) _ _; refine wpList_load_runT (by rfl) 37 _ rfl (.pointer (some ⟨w.heap.size, 5, none⟩)) (.agg lr) rfl HL11.out ?_)
              | (go_at_call 29; refine (HLNK.out W11).mono ?_; rintro e W12 ⟨rfl, hb12⟩; have HI12 := Lib.hid (HW10.out.below hb12); clear hb12)
              | (guard_target = wpList _ _ _ (Oper.mk _ (.store 37 _ _) _ _ _ _ :: _) _ _; refine wpList_store_partJ rfl 37 _ _ rfl w.heap.size 5 32 38 (rjF sd2 (.slice Av (recs.length + 1) cv) last false) (fun i => bv (la i)) rfl rfl 39 HI12.out.1 (by kernel_rfl) (by omega) (fun j hj => rfl) ?_; intro wx hwx; rw [rj_lastR] at hwx; have HI13 : Hid (WrI w B sd2 (.slice Av (recs.length + 1) cv) la false (recs ++ [d]) wx) := Lib.hid (by rw [hwx]; exact HI12.out.setRow sd2 la false); clear hwx))
            have hjv := rj_all (s := sd2) (l := la) (dn := false) HI13.out.one
            obtain ⟨z4, k4, hz4⟩ := HI13.out.2.1
            have k2 := HI13.out.1
            go_wp2_with (first
              | (guard_target = wpList _ _ _ (Oper.mk _ (.load 39 _) _ _ _ _ :: _) _ _; refine wpList_load_row rfl 39 _ rfl w.heap.size rfl 39 _ (0, 0) _ k2 Tryd.underlying39 rfl (by rw [arr_size]; kernel_rfl) ?_)
              | (guard_target = wpList _ _ _ (Oper.mk _ (.store 39 _ _) _ _ _ _ :: _) _ _; refine wpList_store_row rfl 39 _ _ rfl (w.heap.size + 1) (arr 38 (rjF sd2 (.slice Av (recs.length + 1) cv) la false)) rfl rfl 39 _ k4 (by rw [arr_size]; kernel_rfl) (by rw [arr_size, hz4]) hjv ?_))
            refine bodyPost_ret (results_cell_tmp (p := 4) (q := 5) rfl _ _ (w.heap.size + 1) _ _ _ rfl (k4.setRow _) Tryd.underlying39 rfl (by rw [arr_size]; kernel_rfl)) rfl ?_
            rw [HE.out]
            exact ⟨(.slice Av (recs.length + 1) cv), rfl, (wr_ret HI13.out _).1, (wr_ret HI13.out _).2, .inr HV10.out⟩
          · have HE : Hid (writeJ ⟨recs, last, false⟩ sd d = (⟨recs, last, true⟩, sd2, 90)) := Lib.hid (by rw [HWE.out, HLY.out]; dsimp only; rw [if_neg (show ¬ (90 : Int) = 0 by decide), if_pos rfl])
            have c37d : w7.cell? ⟨w.heap.size, 37, none⟩ = some (.bool false) := by rw [HI9.out.1.cell, arr_get, if_pos (by omega)]; rfl
            have f37 := HI9.out.1.frozen 37
            go_upto_region 11 with fail
            obtain ⟨W9, hW9⟩ : ∃ z, w7.setCell ⟨w.heap.size, 37, none⟩ (.bool true) = z := ⟨_, rfl⟩
            rw [hW9]
            have HI10 : Hid (WrI w B sd2 v last true recs W9) := Lib.hid (by rw [← hW9]; exact HI9.out.setDown true)
            clear hW9 c37d f37
            have hjv := rj_all (s := sd2) (l := last) (dn := true) HI10.out.one
            obtain ⟨z4, k4, hz4⟩ := HI10.out.2.1
            have k2 := HI10.out.1
            go_wp2_with (first
              | (guard_target = wpList _ _ _ (Oper.mk _ (.load 39 _) _ _ _ _ :: _) _ _; refine wpList_load_row rfl 39 _ rfl w.heap.size rfl 39 _ (0, 0) _ k2 Tryd.underlying39 rfl (by rw [arr_size]; kernel_rfl) ?_)
              | (guard_target = wpList _ _ _ (Oper.mk _ (.store 39 _ _) _ _ _ _ :: _) _ _; refine wpList_store_row rfl 39 _ _ rfl (w.heap.size + 1) (arr 38 (rjF sd2 v last true)) rfl rfl 39 _ k4 (by rw [arr_size]; kernel_rfl) (by rw [arr_size, hz4]) hjv ?_))
            refine bodyPost_ret (results_cell_tmp (p := 4) (q := 5) rfl _ _ (w.heap.size + 1) _ _ _ rfl (k4.setRow _) Tryd.underlying39 rfl (by rw [arr_size]; kernel_rfl)) rfl ?_
            rw [HE.out]
            exact ⟨v, rfl, (wr_ret HI10.out _).1, (wr_ret HI10.out _).2, .inl rfl⟩
      · (try rw [if_pos (by rfl)])
        go_simp
        first | refine alloc_genR ?_ | refine alloc_genRD ?_
        intro Wa hka hba
        have hg6 := hbX.size
        replace hbX : Below W.heap.size W Wa := by first | exact hbX.trans (hba.mono hbX.size) | exact hba
        clear hba
        try dsimp only
        refine hK.out _ _ (hbX) (fun hHeld => ?_)
        clear hK K
        try simp only [Act.put, List.setIfInBounds_toArray, List.set_cons_zero, List.set_cons_succ]
        refine wpAnyH_ready (rs := [5]) (by kernel_rfl) (by simp) ?_
        refine (AllReadyH.cons (o := ⟨some 22, _, _, _, _, _⟩) rfl (fun K hK => ?_) AllReadyH.nil)
        (try rw [if_pos (by rfl)])
        go_simp
        refine (HREC.out _).mono ?_
        rintro e Wc ⟨rfl, hbc⟩
        replace hbX := hbX.trans (hbc.mono hbX.size)
        (try replace hka := Blk.below hka hbc (Blk.lt hka))
        clear hbc
        try dsimp only
        refine hK.out _ _ (hbX) (fun hHeld => ?_)
        clear hK K
        try simp only [Act.put, List.setIfInBounds_toArray, List.set_cons_zero, List.set_cons_succ]
        refine wpAnyH_ready (rs := [6]) (by kernel_rfl) (by simp) ?_
        refine (AllReadyH.cons (o := ⟨some 23, _, _, _, _, _⟩) rfl (fun K hK => ?_) AllReadyH.nil)
        (try rw [if_pos (by rfl)])
        go_simp
        refine (HAPP.out _).mono ?_
        rintro e Wc ⟨rfl, hbc⟩
        replace hbX := hbX.trans (hbc.mono hbX.size)
        (try replace hka := Blk.below hka hbc (Blk.lt hka))
        clear hbc
        try dsimp only
        refine hK.out _ _ (hbX) (fun hHeld => ?_)
        clear hK K
        try simp only [Act.put, List.setIfInBounds_toArray, List.set_cons_zero, List.set_cons_succ]
        refine wpAnyH_take (i := 7) (oi := ⟨some 16, _, _, _, _, _⟩) (v := ?_) rfl (by kernel_rfl) (by kernel_rfl) (by kernel_rfl) (fun _ _ _ h => h) (Or.inl ⟨by rfl, ?_⟩) (by assumption) ?_
        rotate_left
        · intro w hSw; (try dsimp only at hSw); go_simp; try (with_reducible rfl)
        rotate_left 0
        try simp only [Act.put, List.setIfInBounds_toArray, List.set_cons_zero, List.set_cons_succ]
        refine wpAnyH_take (i := 8) (oi := ⟨some 24, _, _, _, _, _⟩) (v := ?_) rfl (by kernel_rfl) (by kernel_rfl) (by kernel_rfl) (fun _ _ _ h => h) (Or.inl ⟨by rfl, ?_⟩) (by assumption) ?_
        rotate_left
        · intro w hSw; (try dsimp only at hSw); go_simp; try (with_reducible rfl)
        rotate_left 0
        try simp only [Act.put, List.setIfInBounds_toArray, List.set_cons_zero, List.set_cons_succ]
        refine wpAnyH_take (i := 9) (oi := ⟨some 25, _, _, _, _, _⟩) (v := ?_) rfl (by kernel_rfl) (by kernel_rfl) (by kernel_rfl) (fun _ _ _ h => h) (Or.inl ⟨by rfl, ?_⟩) (by assumption) ?_
        rotate_left
        · intro w hSw; (try dsimp only at hSw); go_simp; try (with_reducible rfl)
        rotate_left 0
        try simp only [Act.put, List.setIfInBounds_toArray, List.set_cons_zero, List.set_cons_succ]
        refine wpAnyH_ready (rs := [11]) (by kernel_rfl) (by simp) ?_
        refine (AllReadyH.cons (o := ⟨none, _, _, _, _, _⟩) rfl (fun K hK => ?_) AllReadyH.nil)
        (try rw [if_pos (by rfl)])
        refine wp_store_row 29 _ _ rfl _ s1v rfl rfl 29 _ hka (by rw [HS1.out.2.1]; kernel_rfl) (by rw [HS1.out.2.1]; rfl) HS1.out.2.2 ?_
        replace hka := Blk.setRow hka s1v
        replace hbX := below_setRow hbX hg6 s1v
        try simp only [Act.put]
        try dsimp only
        refine hK.out _ _ (hbX) (fun hHeld => ?_)
        clear hK K
        try simp only [Act.put, List.setIfInBounds_toArray, List.set_cons_zero, List.set_cons_succ]
        refine wpAnyH_take (i := 12) (oi := ⟨some 7, _, _, _, _, _⟩) (v := ?_) rfl (by kernel_rfl) (by kernel_rfl) (by kernel_rfl) (fun _ _ _ h => h) (Or.inl ⟨by rfl, ?_⟩) (by assumption) ?_
        rotate_left
        · intro w hSw; (try dsimp only at hSw); go_simp; try (with_reducible rfl)
        rotate_left 0
        try simp only [Act.put, List.setIfInBounds_toArray, List.set_cons_zero, List.set_cons_succ]
        refine wpAnyH_done (by kernel_rfl) ?_ _
        have HI5 := Lib.hid (HI.out.below hbX)
        clear hbX hg6
        go_upto_region 7 with (first
          | (guard_target = wpList _ _ _ (Oper.mk _ (.load 29 _) _ _ _ _ :: _) _ _; refine wpList_load_row rfl 29 _ rfl _ rfl 29 s1v (0, 0) _ hka Tryd.underlying29 rfl (by rw [HS1.out.2.1]; kernel_rfl) ?_)
          | (guard_target = wpList _ _ _ (Oper.mk _ (.store 29 _ _) _ _ _ _ :: _) _ _; refine wpList_store_partJ rfl 29 _ _ rfl w.heap.size 0 4 38 (rjF sd v last false) (rjF sd1 v last false) rfl (show _ = Value.agg (arr 4 (rjF sd1 v last false)) by rw [← slabA_arr, HS1.out.1]; rfl) 39 HI5.out.1 (by kernel_rfl) (by omega) (fun j hj => rj_one4 hj) ?_; intro w7 hw7; rw [rj_put] at hw7; have HI7 : Hid (WrI w B sd1 v last false recs w7) := Lib.hid (by rw [hw7]; exact HI5.out.setRow sd1 last false); clear hw7))
        have HSYN := Lib.hid (refSync_any sd1 HOK1.out)
        have HSC := sync_code sd1
        obtain ⟨sd2, hsd2⟩ : ∃ z, sd1.sync.1 = z := ⟨_, rfl⟩
        obtain ⟨e2, he2⟩ : ∃ z, sd1.sync.2 = z := ⟨_, rfl⟩
        rw [hsd2, he2] at HSYN
        rw [he2] at HSC
        obtain ⟨s2v, hs2v⟩ : ∃ z, slabA sd2 = z := ⟨_, rfl⟩
        have HS2 : Hid (slabA sd2 = s2v ∧ s2v.size = 4 ∧ s2v.all (·.oneCell') = true) := Lib.hid ⟨hs2v, by rw [← hs2v]; rfl, by rw [← hs2v]; exact slabA_all _⟩
        rw [show sd2.v = .agg (slabA sd2) from rfl, hs2v, show sd1.v = .agg (slabA sd1) from rfl, HS1.out.1] at HSYN
        have HLS1 := Lib.hid (load_slabR HI7.out.1)
        rw [HS1.out.1] at HLS1
        have HLY : Hid (sd.lay rb = (sd2, e2)) := Lib.hid (by rw [HLA.out, if_pos rfl, ← hsd2, ← he2])
        clear hsd2 he2 hs2v
        go_upto_region 9 with (first
          | (guard_target = wpList _ _ _ (Oper.mk _ (.load 29 _) _ _ _ _ :: _) _ _; refine wpList_load_runT (by rfl) 29 _ rfl (.pointer (some ⟨w.heap.size, 0, none⟩)) (.agg s1v) rfl HLS1.out ?_)
          | (go_at_call 39; refine (HSYN.out _).mono ?_; rintro e W8 ⟨rfl, hb8⟩; have HI8 := Lib.hid (HI7.out.below hb8); clear hb8)
          | (guard_target = wpList _ _ _ (Oper.mk _ (.store 29 _ _) _ _ _ _ :: _) _ _; refine wpList_store_partJ rfl 29 _ _ rfl w.heap.size 0 4 38 (rjF sd1 v last false) (rjF sd2 v last false) rfl (show _ = Value.agg (arr 4 (rjF sd2 v last false)) by rw [← slabA_arr, HS2.out.1]; rfl) 39 HI8.out.1 (by kernel_rfl) (by omega) (fun j hj => rj_one4 hj) ?_; intro w7 hw7; rw [rj_put] at hw7; have HI9 : Hid (WrI w B sd2 v last false recs w7) := Lib.hid (by rw [hw7]; exact HI8.out.setRow sd2 last false); clear hw7))
        rcases HSC with rfl | rfl
        · have HE : Hid (writeJ ⟨recs, last, false⟩ sd d = (⟨recs ++ [d], withD last d, false⟩, sd2, 0)) := Lib.hid (by rw [HWE.out, HLY.out]; dsimp only; rw [if_pos rfl])
          obtain ⟨v9, W9, hrun9, own9, hb9⟩ := text_part HI9.out.2.2.2 rfl HBN.out.2
          obtain ⟨v10, W10, hrun10, own10, hgr10, hat10⟩ := app_text hb9.size own9 d HBN.out.2
          have hb910 : Below w7.heap.size w7 W10 := hb9.grown hgr10 hb9.size (fun b hb => (own9.lt b hb).1)
          have HI10 := Lib.hid (HI9.out.below hb910)
          have c4a : (w7.alloc (.cells #[] 9)).cell? ⟨w.heap.size, 4, none⟩ = some v := by
            rw [((HI9.out.1).alloc _).cell, arr_get, if_pos (by omega)]
            rfl
          have d4 : W10.cell? ⟨w.heap.size, 4, none⟩ = some v := by rw [HI10.out.1.cell, arr_get, if_pos (by omega)]; rfl
          have f4 := HI10.out.1.frozen 4
          have h10 : v10.oneCell' = true := by
            rcases ownsRow_forms' own10 with ⟨rfl, _⟩ | ⟨_, _, rfl⟩ <;> rfl
          obtain ⟨Av, cv, rfl, _⟩ := own_len own10
          have HV10 : Hid (∀ i, (Value.slice Av (recs.length + 1) cv).ownBlock = some i → w.heap.size ≤ i) := Lib.hid fun i hi => Nat.le_trans HI9.out.2.2.1.size (own10.lt i hi).1
          have HR9 := Lib.hid hrun9
          have HR10 := Lib.hid hrun10
          have HW10 : Hid (WrI w B sd2 (.slice Av (recs.length + 1) cv) last false (recs ++ [d]) (W10.setCell ⟨w.heap.size, 4, none⟩ (.slice Av (recs.length + 1) cv))) := Lib.hid (HI10.out.setList (by rw [List.length_append, List.length_singleton]; exact own10) (Nat.le_trans HBN.out.1 HI9.out.2.2.1.size))
          clear hrun9 own9 hb9 hrun10 own10 hgr10 hat10 hb910 h10
          go_upto_region 13 with (at_builtin; refine wpList_append_run rfl (.tmp 44) (.tmp 46) _ _ rfl _ _ rfl rfl _ _ HR9.out ?_)
          clear c4a
          go_upto_region 14 with (at_builtin; refine wpList_append_run rfl (.tmp 48) (.tmp 50) _ _ rfl _ _ rfl rfl _ _ HR10.out ?_)
          clear d4 f4
          obtain ⟨W11, hW11⟩ : ∃ z, W10.setCell ⟨w.heap.size, 4, none⟩ (.slice Av (recs.length + 1) cv) = z := ⟨_, rfl⟩
          rw [hW11] at HW10 ⊢
          clear hW11
          have HL11 := Lib.hid (load_lastR HW10.out.1)
          rw [HLR.out] at HL11
          obtain ⟨la, hla⟩ : ∃ z, withD last d = z := ⟨_, rfl⟩
          rw [hla] at HLNK HE
          rw [HLR.out] at HLNK
          clear hla
          go_upto_region 15 with (first
            | (guard_target = wpList _ _ _ (Oper.mk _ (.load 37 _) _ _ _ _ :: _) _ _; refine wpList_load_runT (by rfl) 37 _ rfl (.pointer (some ⟨w.heap.size, 5, none⟩)) (.agg lr) rfl HL11.out ?_)
            | (go_at_call 29; refine (HLNK.out W11).mono ?_; rintro e W12 ⟨rfl, hb12⟩; have HI12 := Lib.hid (HW10.out.below hb12); clear hb12)
            | (guard_target = wpList _ _ _ (Oper.mk _ (.store 37 _ _) _ _ _ _ :: _) _ _; refine wpList_store_partJ rfl 37 _ _ rfl w.heap.size 5 32 38 (rjF sd2 (.slice Av (recs.length + 1) cv) last false) (fun i => bv (la i)) rfl rfl 39 HI12.out.1 (by kernel_rfl) (by omega) (fun j hj => rfl) ?_; intro wx hwx; rw [rj_lastR] at hwx; have HI13 : Hid (WrI w B sd2 (.slice Av (recs.length + 1) cv) la false (recs ++ [d]) wx) := Lib.hid (by rw [hwx]; exact HI12.out.setRow sd2 la false); clear hwx))
          have hjv := rj_all (s := sd2) (l := la) (dn := false) HI13.out.one
          obtain ⟨z4, k4, hz4⟩ := HI13.out.2.1
          have k2 := HI13.out.1
          go_wp2_with (first
            | (guard_target = wpList _ _ _ (Oper.mk _ (.load 39 _) _ _ _ _ :: _) _ _; refine wpList_load_row rfl 39 _ rfl w.heap.size rfl 39 _ (0, 0) _ k2 Tryd.underlying39 rfl (by rw [arr_size]; kernel_rfl) ?_)
            | (guard_target = wpList _ _ _ (Oper.mk _ (.store 39 _ _) _ _ _ _ :: _) _ _; refine wpList_store_row rfl 39 _ _ rfl (w.heap.size + 1) (arr 38 (rjF sd2 (.slice Av (recs.length + 1) cv) la false)) rfl rfl 39 _ k4 (by rw [arr_size]; kernel_rfl) (by rw [arr_size, hz4]) hjv ?_))
          refine bodyPost_ret (results_cell_tmp (p := 4) (q := 5) rfl _ _ (w.heap.size + 1) _ _ _ rfl (k4.setRow _) Tryd.underlying39 rfl (by rw [arr_size]; kernel_rfl)) rfl ?_
          rw [HE.out]
          exact ⟨(.slice Av (recs.length + 1) cv), rfl, (wr_ret HI13.out _).1, (wr_ret HI13.out _).2, .inr HV10.out⟩
        · have HE : Hid (writeJ ⟨recs, last, false⟩ sd d = (⟨recs, last, true⟩, sd2, 90)) := Lib.hid (by rw [HWE.out, HLY.out]; dsimp only; rw [if_neg (show ¬ (90 : Int) = 0 by decide), if_pos rfl])
          have c37d : w7.cell? ⟨w.heap.size, 37, none⟩ = some (.bool false) := by rw [HI9.out.1.cell, arr_get, if_pos (by omega)]; rfl
          have f37 := HI9.out.1.frozen 37
          go_upto_region 11 with fail
          obtain ⟨W9, hW9⟩ : ∃ z, w7.setCell ⟨w.heap.size, 37, none⟩ (.bool true) = z := ⟨_, rfl⟩
          rw [hW9]
          have HI10 : Hid (WrI w B sd2 v last true recs W9) := Lib.hid (by rw [← hW9]; exact HI9.out.setDown true)
          clear hW9 c37d f37
          have hjv := rj_all (s := sd2) (l := last) (dn := true) HI10.out.one
          obtain ⟨z4, k4, hz4⟩ := HI10.out.2.1
          have k2 := HI10.out.1
          go_wp2_with (first
            | (guard_target = wpList _ _ _ (Oper.mk _ (.load 39 _) _ _ _ _ :: _) _ _; refine wpList_load_row rfl 39 _ rfl w.heap.size rfl 39 _ (0, 0) _ k2 Tryd.underlying39 rfl (by rw [arr_size]; kernel_rfl) ?_)
            | (guard_target = wpList _ _ _ (Oper.mk _ (.store 39 _ _) _ _ _ _ :: _) _ _; refine wpList_store_row rfl 39 _ _ rfl (w.heap.size + 1) (arr 38 (rjF sd2 v last true)) rfl rfl 39 _ k4 (by rw [arr_size]; kernel_rfl) (by rw [arr_size, hz4]) hjv ?_))
          refine bodyPost_ret (results_cell_tmp (p := 4) (q := 5) rfl _ _ (w.heap.size + 1) _ _ _ rfl (k4.setRow _) Tryd.underlying39 rfl (by rw [arr_size]; kernel_rfl)) rfl ?_
          rw [HE.out]
          exact ⟨v, rfl, (wr_ret HI10.out _).1, (wr_ret HI10.out _).2, .inl rfl⟩
    · refine wp_region_held_drew (S := fun W' => Below W.heap.size W W') (by kernel_rfl) ?_ (fun hHeld => ?_)
      · exact hbX
      refine wpAnyH_take (i := 0) (oi := ⟨some 17, _, _, _, _, _⟩) (v := ?_) rfl (by kernel_rfl) (by kernel_rfl) (by kernel_rfl) (fun _ _ _ h => h) (Or.inl ⟨by rfl, ?_⟩) (by assumption) ?_
      rotate_left
      · intro w hSw; (try dsimp only at hSw); go_simp; try (with_reducible rfl)
      rotate_left 0
      try simp only [Act.put, List.setIfInBounds_toArray, List.set_cons_zero, List.set_cons_succ]
      refine wpAnyH_take (i := 1) (oi := ⟨some 18, _, _, _, _, _⟩) (v := (.agg sv)) rfl (by kernel_rfl) (by kernel_rfl) (by kernel_rfl) (fun _ _ _ h => h) (yields_loadR (by rfl) 29 _ rfl (.pointer (some ⟨w.heap.size, 0, none⟩)) rfl _ (fun W' hS => HLS.out W' hS)) (by assumption) ?_
      try simp only [Act.put, List.setIfInBounds_toArray, List.set_cons_zero, List.set_cons_succ]
      refine wpAnyH_take (i := 2) (oi := ⟨some 19, _, _, _, _, _⟩) (v := ?_) rfl (by kernel_rfl) (by kernel_rfl) (by kernel_rfl) (fun _ _ _ h => h) (Or.inl ⟨by rfl, ?_⟩) (by assumption) ?_
      rotate_left
      · intro w hSw; (try dsimp only at hSw); go_simp; try (with_reducible rfl)
      rotate_left 0
      try simp only [Act.put, List.setIfInBounds_toArray, List.set_cons_zero, List.set_cons_succ]
      refine wpAnyH_take (i := 3) (oi := ⟨some 20, _, _, _, _, _⟩) (v := (.agg lr)) rfl (by kernel_rfl) (by kernel_rfl) (by kernel_rfl) (fun _ _ _ h => h) (yields_loadR (by rfl) 37 _ rfl (.pointer (some ⟨w.heap.size, 5, none⟩)) rfl _ (fun W' hS => HLL.out W' hS)) (by assumption) ?_
      try simp only [Act.put, List.setIfInBounds_toArray, List.set_cons_zero, List.set_cons_succ]
      refine wpAnyH_take (i := 4) (oi := ⟨some 21, _, _, _, _, _⟩) (v := ?_) rfl (by kernel_rfl) (by kernel_rfl) (by kernel_rfl) (fun _ _ _ h => h) (Or.inl ⟨by rfl, ?_⟩) (by assumption) ?_
      rotate_left
      · intro w hSw; (try dsimp only at hSw); go_simp; try (with_reducible rfl)
      rotate_left 0
      try simp only [Act.put, List.setIfInBounds_toArray, List.set_cons_zero, List.set_cons_succ]
      refine wpAnyH_ready (rs := [5, 10]) (by kernel_rfl) (by simp) ?_
      refine (AllReadyH.cons (o := ⟨some 22, _, _, _, _, _⟩) rfl (fun K hK => ?_) (AllReadyH.cons (o := ⟨some 6, _, _, _, _, _⟩) rfl (fun K hK => ?_) AllReadyH.nil))
      · (try rw [if_pos (by rfl)])
        go_simp
        refine (HREC.out _).mono ?_
        rintro e Wc ⟨rfl, hbc⟩
        replace hbX := hbX.trans (hbc.mono hbX.size)
        (try replace hka := Blk.below hka hbc (Blk.lt hka))
        clear hbc
        try dsimp only
        refine hK.out _ _ (hbX) (fun hHeld => ?_)
        clear hK K
        try simp only [Act.put, List.setIfInBounds_toArray, List.set_cons_zero, List.set_cons_succ]
        refine wpAnyH_ready (rs := [6, 10]) (by kernel_rfl) (by simp) ?_
        refine (AllReadyH.cons (o := ⟨some 23, _, _, _, _, _⟩) rfl (fun K hK => ?_) (AllReadyH.cons (o := ⟨some 6, _, _, _, _, _⟩) rfl (fun K hK => ?_) AllReadyH.nil))
        · (try rw [if_pos (by rfl)])
          go_simp
          refine (HAPP.out _).mono ?_
          rintro e Wc ⟨rfl, hbc⟩
          replace hbX := hbX.trans (hbc.mono hbX.size)
          (try replace hka := Blk.below hka hbc (Blk.lt hka))
          clear hbc
          try dsimp only
          refine hK.out _ _ (hbX) (fun hHeld => ?_)
          clear hK K
          try simp only [Act.put, List.setIfInBounds_toArray, List.set_cons_zero, List.set_cons_succ]
          refine wpAnyH_take (i := 7) (oi := ⟨some 16, _, _, _, _, _⟩) (v := ?_) rfl (by kernel_rfl) (by kernel_rfl) (by kernel_rfl) (fun _ _ _ h => h) (Or.inl ⟨by rfl, ?_⟩) (by assumption) ?_
          rotate_left
          · intro w hSw; (try dsimp only at hSw); go_simp; try (with_reducible rfl)
          rotate_left 0
          try simp only [Act.put, List.setIfInBounds_toArray, List.set_cons_zero, List.set_cons_succ]
          refine wpAnyH_take (i := 8) (oi := ⟨some 24, _, _, _, _, _⟩) (v := ?_) rfl (by kernel_rfl) (by kernel_rfl) (by kernel_rfl) (fun _ _ _ h => h) (Or.inl ⟨by rfl, ?_⟩) (by assumption) ?_
          rotate_left
          · intro w hSw; (try dsimp only at hSw); go_simp; try (with_reducible rfl)
          rotate_left 0
          try simp only [Act.put, List.setIfInBounds_toArray, List.set_cons_zero, List.set_cons_succ]
          refine wpAnyH_take (i := 9) (oi := ⟨some 25, _, _, _, _, _⟩) (v := ?_) rfl (by kernel_rfl) (by kernel_rfl) (by kernel_rfl) (fun _ _ _ h => h) (Or.inl ⟨by rfl, ?_⟩) (by assumption) ?_
          rotate_left
          · intro w hSw; (try dsimp only at hSw); go_simp; try (with_reducible rfl)
          rotate_left 0
          try simp only [Act.put, List.setIfInBounds_toArray, List.set_cons_zero, List.set_cons_succ]
          refine wpAnyH_ready (rs := [10]) (by kernel_rfl) (by simp) ?_
          refine (AllReadyH.cons (o := ⟨some 6, _, _, _, _, _⟩) rfl (fun K hK => ?_) AllReadyH.nil)
          (try rw [if_pos (by rfl)])
          go_simp
          first | refine alloc_genR ?_ | refine alloc_genRD ?_
          intro Wa hka hba
          have hg6 := hbX.size
          replace hbX : Below W.heap.size W Wa := by first | exact hbX.trans (hba.mono hbX.size) | exact hba
          clear hba
          try dsimp only
          refine hK.out _ _ (hbX) (fun hHeld => ?_)
          clear hK K
          try simp only [Act.put, List.setIfInBounds_toArray, List.set_cons_zero, List.set_cons_succ]
          refine wpAnyH_ready (rs := [11]) (by kernel_rfl) (by simp) ?_
          refine (AllReadyH.cons (o := ⟨none, _, _, _, _, _⟩) rfl (fun K hK => ?_) AllReadyH.nil)
          (try rw [if_pos (by rfl)])
          refine wp_store_row 29 _ _ rfl _ s1v rfl rfl 29 _ hka (by rw [HS1.out.2.1]; kernel_rfl) (by rw [HS1.out.2.1]; rfl) HS1.out.2.2 ?_
          replace hka := Blk.setRow hka s1v
          replace hbX := below_setRow hbX hg6 s1v
          try simp only [Act.put]
          try dsimp only
          refine hK.out _ _ (hbX) (fun hHeld => ?_)
          clear hK K
          try simp only [Act.put, List.setIfInBounds_toArray, List.set_cons_zero, List.set_cons_succ]
          refine wpAnyH_take (i := 12) (oi := ⟨some 7, _, _, _, _, _⟩) (v := ?_) rfl (by kernel_rfl) (by kernel_rfl) (by kernel_rfl) (fun _ _ _ h => h) (Or.inl ⟨by rfl, ?_⟩) (by assumption) ?_
          rotate_left
          · intro w hSw; (try dsimp only at hSw); go_simp; try (with_reducible rfl)
          rotate_left 0
          try simp only [Act.put, List.setIfInBounds_toArray, List.set_cons_zero, List.set_cons_succ]
          refine wpAnyH_done (by kernel_rfl) ?_ _
          have HI5 := Lib.hid (HI.out.below hbX)
          clear hbX hg6
          go_upto_region 7 with (first
            | (guard_target = wpList _ _ _ (Oper.mk _ (.load 29 _) _ _ _ _ :: _) _ _; refine wpList_load_row rfl 29 _ rfl _ rfl 29 s1v (0, 0) _ hka Tryd.underlying29 rfl (by rw [HS1.out.2.1]; kernel_rfl) ?_)
            | (guard_target = wpList _ _ _ (Oper.mk _ (.store 29 _ _) _ _ _ _ :: _) _ _; refine wpList_store_partJ rfl 29 _ _ rfl w.heap.size 0 4 38 (rjF sd v last false) (rjF sd1 v last false) rfl (show _ = Value.agg (arr 4 (rjF sd1 v last false)) by rw [← slabA_arr, HS1.out.1]; rfl) 39 HI5.out.1 (by kernel_rfl) (by omega) (fun j hj => rj_one4 hj) ?_; intro w7 hw7; rw [rj_put] at hw7; have HI7 : Hid (WrI w B sd1 v last false recs w7) := Lib.hid (by rw [hw7]; exact HI5.out.setRow sd1 last false); clear hw7))
          have HE : Hid (writeJ ⟨recs, last, false⟩ sd d = (⟨recs, last, false⟩, sd1, 3)) := Lib.hid (by rw [HWE.out, HLA.out, if_neg (show ¬ (3 : Int) = 0 by decide), HSD1.out]; dsimp only; rw [if_neg (show ¬ (3 : Int) = 0 by decide), if_neg (show ¬ (3 : Int) = 90 by decide)])
          have c37d : w7.cell? ⟨w.heap.size, 37, none⟩ = some (.bool false) := by rw [HI7.out.1.cell, arr_get, if_pos (by omega)]; rfl
          have f37 := HI7.out.1.frozen 37
          go_upto_region 11 with fail
          obtain ⟨W9, hW9⟩ : ∃ z, w7.setCell ⟨w.heap.size, 37, none⟩ (.bool false) = z := ⟨_, rfl⟩
          rw [hW9]
          have HI9 : Hid (WrI w B sd1 v last false recs W9) := Lib.hid (by rw [← hW9]; exact HI7.out.setDown false)
          clear hW9 c37d f37
          have hjv := rj_all (s := sd1) (l := last) (dn := false) HI9.out.one
          obtain ⟨z4, k4, hz4⟩ := HI9.out.2.1
          have k2 := HI9.out.1
          go_wp2_with (first
            | (guard_target = wpList _ _ _ (Oper.mk _ (.load 39 _) _ _ _ _ :: _) _ _; refine wpList_load_row rfl 39 _ rfl w.heap.size rfl 39 _ (0, 0) _ k2 Tryd.underlying39 rfl (by rw [arr_size]; kernel_rfl) ?_)
            | (guard_target = wpList _ _ _ (Oper.mk _ (.store 39 _ _) _ _ _ _ :: _) _ _; refine wpList_store_row rfl 39 _ _ rfl (w.heap.size + 1) (arr 38 (rjF sd1 v last false)) rfl rfl 39 _ k4 (by rw [arr_size]; kernel_rfl) (by rw [arr_size, hz4]) hjv ?_))
          refine bodyPost_ret (results_cell_tmp (p := 4) (q := 5) rfl _ _ (w.heap.size + 1) _ _ _ rfl (k4.setRow _) Tryd.underlying39 rfl (by rw [arr_size]; kernel_rfl)) rfl ?_
          rw [HE.out]
          exact ⟨v, rfl, (wr_ret HI9.out _).1, (wr_ret HI9.out _).2, .inl rfl⟩
        · (try rw [if_pos (by rfl)])
          go_simp
          first | refine alloc_genR ?_ | refine alloc_genRD ?_
          intro Wa hka hba
          have hg6 := hbX.size
          replace hbX : Below W.heap.size W Wa := by first | exact hbX.trans (hba.mono hbX.size) | exact hba
          clear hba
          try dsimp only
          refine hK.out _ _ (hbX) (fun hHeld => ?_)
          clear hK K
          try simp only [Act.put, List.setIfInBounds_toArray, List.set_cons_zero, List.set_cons_succ]
          refine wpAnyH_ready (rs := [6]) (by kernel_rfl) (by simp) ?_
          refine (AllReadyH.cons (o := ⟨some 23, _, _, _, _, _⟩) rfl (fun K hK => ?_) AllReadyH.nil)
          (try rw [if_pos (by rfl)])
          go_simp
          refine (HAPP.out _).mono ?_
          rintro e Wc ⟨rfl, hbc⟩
          replace hbX := hbX.trans (hbc.mono hbX.size)
          (try replace hka := Blk.below hka hbc (Blk.lt hka))
          clear hbc
          try dsimp only
          refine hK.out _ _ (hbX) (fun hHeld => ?_)
          clear hK K
          try simp only [Act.put, List.setIfInBounds_toArray, List.set_cons_zero, List.set_cons_succ]
          refine wpAnyH_take (i := 7) (oi := ⟨some 16, _, _, _, _, _⟩) (v := ?_) rfl (by kernel_rfl) (by kernel_rfl) (by kernel_rfl) (fun _ _ _ h => h) (Or.inl ⟨by rfl, ?_⟩) (by assumption) ?_
          rotate_left
          · intro w hSw; (try dsimp only at hSw); go_simp; try (with_reducible rfl)
          rotate_left 0
          try simp only [Act.put, List.setIfInBounds_toArray, List.set_cons_zero, List.set_cons_succ]
          refine wpAnyH_take (i := 8) (oi := ⟨some 24, _, _, _, _, _⟩) (v := ?_) rfl (by kernel_rfl) (by kernel_rfl) (by kernel_rfl) (fun _ _ _ h => h) (Or.inl ⟨by rfl, ?_⟩) (by assumption) ?_
          rotate_left
          · intro w hSw; (try dsimp only at hSw); go_simp; try (with_reducible rfl)
          rotate_left 0
          try simp only [Act.put, List.setIfInBounds_toArray, List.set_cons_zero, List.set_cons_succ]
          refine wpAnyH_take (i := 9) (oi := ⟨some 25, _, _, _, _, _⟩) (v := ?_) rfl (by kernel_rfl) (by kernel_rfl) (by kernel_rfl) (fun _ _ _ h => h) (Or.inl ⟨by rfl, ?_⟩) (by assumption) ?_
          rotate_left
          · intro w hSw; (try dsimp only at hSw); go_simp; try (with_reducible rfl)
          rotate_left 0
          try simp only [Act.put, List.setIfInBounds_toArray, List.set_cons_zero, List.set_cons_succ]
          refine wpAnyH_ready (rs := [11]) (by kernel_rfl) (by simp) ?_
          refine (AllReadyH.cons (o := ⟨none, _, _, _, _, _⟩) rfl (fun K hK => ?_) AllReadyH.nil)
          (try rw [if_pos (by rfl)])
          refine wp_store_row 29 _ _ rfl _ s1v rfl rfl 29 _ hka (by rw [HS1.out.2.1]; kernel_rfl) (by rw [HS1.out.2.1]; rfl) HS1.out.2.2 ?_
          replace hka := Blk.setRow hka s1v
          replace hbX := below_setRow hbX hg6 s1v
          try simp only [Act.put]
          try dsimp only
          refine hK.out _ _ (hbX) (fun hHeld => ?_)
          clear hK K
          try simp only [Act.put, List.setIfInBounds_toArray, List.set_cons_zero, List.set_cons_succ]
          refine wpAnyH_take (i := 12) (oi := ⟨some 7, _, _, _, _, _⟩) (v := ?_) rfl (by kernel_rfl) (by kernel_rfl) (by kernel_rfl) (fun _ _ _ h => h) (Or.inl ⟨by rfl, ?_⟩) (by assumption) ?_
          rotate_left
          · intro w hSw; (try dsimp only at hSw); go_simp; try (with_reducible rfl)
          rotate_left 0
          try simp only [Act.put, List.setIfInBounds_toArray, List.set_cons_zero, List.set_cons_succ]
          refine wpAnyH_done (by kernel_rfl) ?_ _
          have HI5 := Lib.hid (HI.out.below hbX)
          clear hbX hg6
          go_upto_region 7 with (first
            | (guard_target = wpList _ _ _ (Oper.mk _ (.load 29 _) _ _ _ _ :: _) _ _; refine wpList_load_row rfl 29 _ rfl _ rfl 29 s1v (0, 0) _ hka Tryd.underlying29 rfl (by rw [HS1.out.2.1]; kernel_rfl) ?_)
            | (guard_target = wpList _ _ _ (Oper.mk _ (.store 29 _ _) _ _ _ _ :: _) _ _; refine wpList_store_partJ rfl 29 _ _ rfl w.heap.size 0 4 38 (rjF sd v last false) (rjF sd1 v last false) rfl (show _ = Value.agg (arr 4 (rjF sd1 v last false)) by rw [← slabA_arr, HS1.out.1]; rfl) 39 HI5.out.1 (by kernel_rfl) (by omega) (fun j hj => rj_one4 hj) ?_; intro w7 hw7; rw [rj_put] at hw7; have HI7 : Hid (WrI w B sd1 v last false recs w7) := Lib.hid (by rw [hw7]; exact HI5.out.setRow sd1 last false); clear hw7))
          have HE : Hid (writeJ ⟨recs, last, false⟩ sd d = (⟨recs, last, false⟩, sd1, 3)) := Lib.hid (by rw [HWE.out, HLA.out, if_neg (show ¬ (3 : Int) = 0 by decide), HSD1.out]; dsimp only; rw [if_neg (show ¬ (3 : Int) = 0 by decide), if_neg (show ¬ (3 : Int) = 90 by decide)])
          have c37d : w7.cell? ⟨w.heap.size, 37, none⟩ = some (.bool false) := by rw [HI7.out.1.cell, arr_get, if_pos (by omega)]; rfl
          have f37 := HI7.out.1.frozen 37
          go_upto_region 11 with fail
          obtain ⟨W9, hW9⟩ : ∃ z, w7.setCell ⟨w.heap.size, 37, none⟩ (.bool false) = z := ⟨_, rfl⟩
          rw [hW9]
          have HI9 : Hid (WrI w B sd1 v last false recs W9) := Lib.hid (by rw [← hW9]; exact HI7.out.setDown false)
          clear hW9 c37d f37
          have hjv := rj_all (s := sd1) (l := last) (dn := false) HI9.out.one
          obtain ⟨z4, k4, hz4⟩ := HI9.out.2.1
          have k2 := HI9.out.1
          go_wp2_with (first
            | (guard_target = wpList _ _ _ (Oper.mk _ (.load 39 _) _ _ _ _ :: _) _ _; refine wpList_load_row rfl 39 _ rfl w.heap.size rfl 39 _ (0, 0) _ k2 Tryd.underlying39 rfl (by rw [arr_size]; kernel_rfl) ?_)
            | (guard_target = wpList _ _ _ (Oper.mk _ (.store 39 _ _) _ _ _ _ :: _) _ _; refine wpList_store_row rfl 39 _ _ rfl (w.heap.size + 1) (arr 38 (rjF sd1 v last false)) rfl rfl 39 _ k4 (by rw [arr_size]; kernel_rfl) (by rw [arr_size, hz4]) hjv ?_))
          refine bodyPost_ret (results_cell_tmp (p := 4) (q := 5) rfl _ _ (w.heap.size + 1) _ _ _ rfl (k4.setRow _) Tryd.underlying39 rfl (by rw [arr_size]; kernel_rfl)) rfl ?_
          rw [HE.out]
          exact ⟨v, rfl, (wr_ret HI9.out _).1, (wr_ret HI9.out _).2, .inl rfl⟩
      · (try rw [if_pos (by rfl)])
        go_simp
        first | refine alloc_genR ?_ | refine alloc_genRD ?_
        intro Wa hka hba
        have hg6 := hbX.size
        replace hbX : Below W.heap.size W Wa := by first | exact hbX.trans (hba.mono hbX.size) | exact hba
        clear hba
        try dsimp only
        refine hK.out _ _ (hbX) (fun hHeld => ?_)
        clear hK K
        try simp only [Act.put, List.setIfInBounds_toArray, List.set_cons_zero, List.set_cons_succ]
        refine wpAnyH_ready (rs := [5]) (by kernel_rfl) (by simp) ?_
        refine (AllReadyH.cons (o := ⟨some 22, _, _, _, _, _⟩) rfl (fun K hK => ?_) AllReadyH.nil)
        (try rw [if_pos (by rfl)])
        go_simp
        refine (HREC.out _).mono ?_
        rintro e Wc ⟨rfl, hbc⟩
        replace hbX := hbX.trans (hbc.mono hbX.size)
        (try replace hka := Blk.below hka hbc (Blk.lt hka))
        clear hbc
        try dsimp only
        refine hK.out _ _ (hbX) (fun hHeld => ?_)
        clear hK K
        try simp only [Act.put, List.setIfInBounds_toArray, List.set_cons_zero, List.set_cons_succ]
        refine wpAnyH_ready (rs := [6]) (by kernel_rfl) (by simp) ?_
        refine (AllReadyH.cons (o := ⟨some 23, _, _, _, _, _⟩) rfl (fun K hK => ?_) AllReadyH.nil)
        (try rw [if_pos (by rfl)])
        go_simp
        refine (HAPP.out _).mono ?_
        rintro e Wc ⟨rfl, hbc⟩
        replace hbX := hbX.trans (hbc.mono hbX.size)
        (try replace hka := Blk.below hka hbc (Blk.lt hka))
        clear hbc
        try dsimp only
        refine hK.out _ _ (hbX) (fun hHeld => ?_)
        clear hK K
        try simp only [Act.put, List.setIfInBounds_toArray, List.set_cons_zero, List.set_cons_succ]
        refine wpAnyH_take (i := 7) (oi := ⟨some 16, _, _, _, _, _⟩) (v := ?_) rfl (by kernel_rfl) (by kernel_rfl) (by kernel_rfl) (fun _ _ _ h => h) (Or.inl ⟨by rfl, ?_⟩) (by assumption) ?_
        rotate_left
        · intro w hSw; (try dsimp only at hSw); go_simp; try (with_reducible rfl)
        rotate_left 0
        try simp only [Act.put, List.setIfInBounds_toArray, List.set_cons_zero, List.set_cons_succ]
        refine wpAnyH_take (i := 8) (oi := ⟨some 24, _, _, _, _, _⟩) (v := ?_) rfl (by kernel_rfl) (by kernel_rfl) (by kernel_rfl) (fun _ _ _ h => h) (Or.inl ⟨by rfl, ?_⟩) (by assumption) ?_
        rotate_left
        · intro w hSw; (try dsimp only at hSw); go_simp; try (with_reducible rfl)
        rotate_left 0
        try simp only [Act.put, List.setIfInBounds_toArray, List.set_cons_zero, List.set_cons_succ]
        refine wpAnyH_take (i := 9) (oi := ⟨some 25, _, _, _, _, _⟩) (v := ?_) rfl (by kernel_rfl) (by kernel_rfl) (by kernel_rfl) (fun _ _ _ h => h) (Or.inl ⟨by rfl, ?_⟩) (by assumption) ?_
        rotate_left
        · intro w hSw; (try dsimp only at hSw); go_simp; try (with_reducible rfl)
        rotate_left 0
        try simp only [Act.put, List.setIfInBounds_toArray, List.set_cons_zero, List.set_cons_succ]
        refine wpAnyH_ready (rs := [11]) (by kernel_rfl) (by simp) ?_
        refine (AllReadyH.cons (o := ⟨none, _, _, _, _, _⟩) rfl (fun K hK => ?_) AllReadyH.nil)
        (try rw [if_pos (by rfl)])
        refine wp_store_row 29 _ _ rfl _ s1v rfl rfl 29 _ hka (by rw [HS1.out.2.1]; kernel_rfl) (by rw [HS1.out.2.1]; rfl) HS1.out.2.2 ?_
        replace hka := Blk.setRow hka s1v
        replace hbX := below_setRow hbX hg6 s1v
        try simp only [Act.put]
        try dsimp only
        refine hK.out _ _ (hbX) (fun hHeld => ?_)
        clear hK K
        try simp only [Act.put, List.setIfInBounds_toArray, List.set_cons_zero, List.set_cons_succ]
        refine wpAnyH_take (i := 12) (oi := ⟨some 7, _, _, _, _, _⟩) (v := ?_) rfl (by kernel_rfl) (by kernel_rfl) (by kernel_rfl) (fun _ _ _ h => h) (Or.inl ⟨by rfl, ?_⟩) (by assumption) ?_
        rotate_left
        · intro w hSw; (try dsimp only at hSw); go_simp; try (with_reducible rfl)
        rotate_left 0
        try simp only [Act.put, List.setIfInBounds_toArray, List.set_cons_zero, List.set_cons_succ]
        refine wpAnyH_done (by kernel_rfl) ?_ _
        have HI5 := Lib.hid (HI.out.below hbX)
        clear hbX hg6
        go_upto_region 7 with (first
          | (guard_target = wpList _ _ _ (Oper.mk _ (.load 29 _) _ _ _ _ :: _) _ _; refine wpList_load_row rfl 29 _ rfl _ rfl 29 s1v (0, 0) _ hka Tryd.underlying29 rfl (by rw [HS1.out.2.1]; kernel_rfl) ?_)
          | (guard_target = wpList _ _ _ (Oper.mk _ (.store 29 _ _) _ _ _ _ :: _) _ _; refine wpList_store_partJ rfl 29 _ _ rfl w.heap.size 0 4 38 (rjF sd v last false) (rjF sd1 v last false) rfl (show _ = Value.agg (arr 4 (rjF sd1 v last false)) by rw [← slabA_arr, HS1.out.1]; rfl) 39 HI5.out.1 (by kernel_rfl) (by omega) (fun j hj => rj_one4 hj) ?_; intro w7 hw7; rw [rj_put] at hw7; have HI7 : Hid (WrI w B sd1 v last false recs w7) := Lib.hid (by rw [hw7]; exact HI5.out.setRow sd1 last false); clear hw7))
        have HE : Hid (writeJ ⟨recs, last, false⟩ sd d = (⟨recs, last, false⟩, sd1, 3)) := Lib.hid (by rw [HWE.out, HLA.out, if_neg (show ¬ (3 : Int) = 0 by decide), HSD1.out]; dsimp only; rw [if_neg (show ¬ (3 : Int) = 0 by decide), if_neg (show ¬ (3 : Int) = 90 by decide)])
        have c37d : w7.cell? ⟨w.heap.size, 37, none⟩ = some (.bool false) := by rw [HI7.out.1.cell, arr_get, if_pos (by omega)]; rfl
        have f37 := HI7.out.1.frozen 37
        go_upto_region 11 with fail
        obtain ⟨W9, hW9⟩ : ∃ z, w7.setCell ⟨w.heap.size, 37, none⟩ (.bool false) = z := ⟨_, rfl⟩
        rw [hW9]
        have HI9 : Hid (WrI w B sd1 v last false recs W9) := Lib.hid (by rw [← hW9]; exact HI7.out.setDown false)
        clear hW9 c37d f37
        have hjv := rj_all (s := sd1) (l := last) (dn := false) HI9.out.one
        obtain ⟨z4, k4, hz4⟩ := HI9.out.2.1
        have k2 := HI9.out.1
        go_wp2_with (first
          | (guard_target = wpList _ _ _ (Oper.mk _ (.load 39 _) _ _ _ _ :: _) _ _; refine wpList_load_row rfl 39 _ rfl w.heap.size rfl 39 _ (0, 0) _ k2 Tryd.underlying39 rfl (by rw [arr_size]; kernel_rfl) ?_)
          | (guard_target = wpList _ _ _ (Oper.mk _ (.store 39 _ _) _ _ _ _ :: _) _ _; refine wpList_store_row rfl 39 _ _ rfl (w.heap.size + 1) (arr 38 (rjF sd1 v last false)) rfl rfl 39 _ k4 (by rw [arr_size]; kernel_rfl) (by rw [arr_size, hz4]) hjv ?_))
        refine bodyPost_ret (results_cell_tmp (p := 4) (q := 5) rfl _ _ (w.heap.size + 1) _ _ _ rfl (k4.setRow _) Tryd.underlying39 rfl (by rw [arr_size]; kernel_rfl)) rfl ?_
        rw [HE.out]
        exact ⟨v, rfl, (wr_ret HI9.out _).1, (wr_ret HI9.out _).2, .inl rfl⟩
    · refine wp_region_held_drew (S := fun W' => Below W.heap.size W W') (by kernel_rfl) ?_ (fun hHeld => ?_)
      · exact hbX
      refine wpAnyH_take (i := 0) (oi := ⟨some 17, _, _, _, _, _⟩) (v := ?_) rfl (by kernel_rfl) (by kernel_rfl) (by kernel_rfl) (fun _ _ _ h => h) (Or.inl ⟨by rfl, ?_⟩) (by assumption) ?_
      rotate_left
      · intro w hSw; (try dsimp only at hSw); go_simp; try (with_reducible rfl)
      rotate_left 0
      try simp only [Act.put, List.setIfInBounds_toArray, List.set_cons_zero, List.set_cons_succ]
      refine wpAnyH_take (i := 1) (oi := ⟨some 18, _, _, _, _, _⟩) (v := (.agg sv)) rfl (by kernel_rfl) (by kernel_rfl) (by kernel_rfl) (fun _ _ _ h => h) (yields_loadR (by rfl) 29 _ rfl (.pointer (some ⟨w.heap.size, 0, none⟩)) rfl _ (fun W' hS => HLS.out W' hS)) (by assumption) ?_
      try simp only [Act.put, List.setIfInBounds_toArray, List.set_cons_zero, List.set_cons_succ]
      refine wpAnyH_take (i := 2) (oi := ⟨some 19, _, _, _, _, _⟩) (v := ?_) rfl (by kernel_rfl) (by kernel_rfl) (by kernel_rfl) (fun _ _ _ h => h) (Or.inl ⟨by rfl, ?_⟩) (by assumption) ?_
      rotate_left
      · intro w hSw; (try dsimp only at hSw); go_simp; try (with_reducible rfl)
      rotate_left 0
      try simp only [Act.put, List.setIfInBounds_toArray, List.set_cons_zero, List.set_cons_succ]
      refine wpAnyH_take (i := 3) (oi := ⟨some 20, _, _, _, _, _⟩) (v := (.agg lr)) rfl (by kernel_rfl) (by kernel_rfl) (by kernel_rfl) (fun _ _ _ h => h) (yields_loadR (by rfl) 37 _ rfl (.pointer (some ⟨w.heap.size, 5, none⟩)) rfl _ (fun W' hS => HLL.out W' hS)) (by assumption) ?_
      try simp only [Act.put, List.setIfInBounds_toArray, List.set_cons_zero, List.set_cons_succ]
      refine wpAnyH_take (i := 4) (oi := ⟨some 21, _, _, _, _, _⟩) (v := ?_) rfl (by kernel_rfl) (by kernel_rfl) (by kernel_rfl) (fun _ _ _ h => h) (Or.inl ⟨by rfl, ?_⟩) (by assumption) ?_
      rotate_left
      · intro w hSw; (try dsimp only at hSw); go_simp; try (with_reducible rfl)
      rotate_left 0
      try simp only [Act.put, List.setIfInBounds_toArray, List.set_cons_zero, List.set_cons_succ]
      refine wpAnyH_ready (rs := [5, 10]) (by kernel_rfl) (by simp) ?_
      refine (AllReadyH.cons (o := ⟨some 22, _, _, _, _, _⟩) rfl (fun K hK => ?_) (AllReadyH.cons (o := ⟨some 6, _, _, _, _, _⟩) rfl (fun K hK => ?_) AllReadyH.nil))
      · (try rw [if_pos (by rfl)])
        go_simp
        refine (HREC.out _).mono ?_
        rintro e Wc ⟨rfl, hbc⟩
        replace hbX := hbX.trans (hbc.mono hbX.size)
        (try replace hka := Blk.below hka hbc (Blk.lt hka))
        clear hbc
        try dsimp only
        refine hK.out _ _ (hbX) (fun hHeld => ?_)
        clear hK K
        try simp only [Act.put, List.setIfInBounds_toArray, List.set_cons_zero, List.set_cons_succ]
        refine wpAnyH_ready (rs := [6, 10]) (by kernel_rfl) (by simp) ?_
        refine (AllReadyH.cons (o := ⟨some 23, _, _, _, _, _⟩) rfl (fun K hK => ?_) (AllReadyH.cons (o := ⟨some 6, _, _, _, _, _⟩) rfl (fun K hK => ?_) AllReadyH.nil))
        · (try rw [if_pos (by rfl)])
          go_simp
          refine (HAPP.out _).mono ?_
          rintro e Wc ⟨rfl, hbc⟩
          replace hbX := hbX.trans (hbc.mono hbX.size)
          (try replace hka := Blk.below hka hbc (Blk.lt hka))
          clear hbc
          try dsimp only
          refine hK.out _ _ (hbX) (fun hHeld => ?_)
          clear hK K
          try simp only [Act.put, List.setIfInBounds_toArray, List.set_cons_zero, List.set_cons_succ]
          refine wpAnyH_take (i := 7) (oi := ⟨some 16, _, _, _, _, _⟩) (v := ?_) rfl (by kernel_rfl) (by kernel_rfl) (by kernel_rfl) (fun _ _ _ h => h) (Or.inl ⟨by rfl, ?_⟩) (by assumption) ?_
          rotate_left
          · intro w hSw; (try dsimp only at hSw); go_simp; try (with_reducible rfl)
          rotate_left 0
          try simp only [Act.put, List.setIfInBounds_toArray, List.set_cons_zero, List.set_cons_succ]
          refine wpAnyH_take (i := 8) (oi := ⟨some 24, _, _, _, _, _⟩) (v := ?_) rfl (by kernel_rfl) (by kernel_rfl) (by kernel_rfl) (fun _ _ _ h => h) (Or.inl ⟨by rfl, ?_⟩) (by assumption) ?_
          rotate_left
          · intro w hSw; (try dsimp only at hSw); go_simp; try (with_reducible rfl)
          rotate_left 0
          try simp only [Act.put, List.setIfInBounds_toArray, List.set_cons_zero, List.set_cons_succ]
          refine wpAnyH_take (i := 9) (oi := ⟨some 25, _, _, _, _, _⟩) (v := ?_) rfl (by kernel_rfl) (by kernel_rfl) (by kernel_rfl) (fun _ _ _ h => h) (Or.inl ⟨by rfl, ?_⟩) (by assumption) ?_
          rotate_left
          · intro w hSw; (try dsimp only at hSw); go_simp; try (with_reducible rfl)
          rotate_left 0
          try simp only [Act.put, List.setIfInBounds_toArray, List.set_cons_zero, List.set_cons_succ]
          refine wpAnyH_ready (rs := [10]) (by kernel_rfl) (by simp) ?_
          refine (AllReadyH.cons (o := ⟨some 6, _, _, _, _, _⟩) rfl (fun K hK => ?_) AllReadyH.nil)
          (try rw [if_pos (by rfl)])
          go_simp
          first | refine alloc_genR ?_ | refine alloc_genRD ?_
          intro Wa hka hba
          have hg6 := hbX.size
          replace hbX : Below W.heap.size W Wa := by first | exact hbX.trans (hba.mono hbX.size) | exact hba
          clear hba
          try dsimp only
          refine hK.out _ _ (hbX) (fun hHeld => ?_)
          clear hK K
          try simp only [Act.put, List.setIfInBounds_toArray, List.set_cons_zero, List.set_cons_succ]
          refine wpAnyH_ready (rs := [11]) (by kernel_rfl) (by simp) ?_
          refine (AllReadyH.cons (o := ⟨none, _, _, _, _, _⟩) rfl (fun K hK => ?_) AllReadyH.nil)
          (try rw [if_pos (by rfl)])
          refine wp_store_row 29 _ _ rfl _ s1v rfl rfl 29 _ hka (by rw [HS1.out.2.1]; kernel_rfl) (by rw [HS1.out.2.1]; rfl) HS1.out.2.2 ?_
          replace hka := Blk.setRow hka s1v
          replace hbX := below_setRow hbX hg6 s1v
          try simp only [Act.put]
          try dsimp only
          refine hK.out _ _ (hbX) (fun hHeld => ?_)
          clear hK K
          try simp only [Act.put, List.setIfInBounds_toArray, List.set_cons_zero, List.set_cons_succ]
          refine wpAnyH_take (i := 12) (oi := ⟨some 7, _, _, _, _, _⟩) (v := ?_) rfl (by kernel_rfl) (by kernel_rfl) (by kernel_rfl) (fun _ _ _ h => h) (Or.inl ⟨by rfl, ?_⟩) (by assumption) ?_
          rotate_left
          · intro w hSw; (try dsimp only at hSw); go_simp; try (with_reducible rfl)
          rotate_left 0
          try simp only [Act.put, List.setIfInBounds_toArray, List.set_cons_zero, List.set_cons_succ]
          refine wpAnyH_done (by kernel_rfl) ?_ _
          have HI5 := Lib.hid (HI.out.below hbX)
          clear hbX hg6
          go_upto_region 7 with (first
            | (guard_target = wpList _ _ _ (Oper.mk _ (.load 29 _) _ _ _ _ :: _) _ _; refine wpList_load_row rfl 29 _ rfl _ rfl 29 s1v (0, 0) _ hka Tryd.underlying29 rfl (by rw [HS1.out.2.1]; kernel_rfl) ?_)
            | (guard_target = wpList _ _ _ (Oper.mk _ (.store 29 _ _) _ _ _ _ :: _) _ _; refine wpList_store_partJ rfl 29 _ _ rfl w.heap.size 0 4 38 (rjF sd v last false) (rjF sd1 v last false) rfl (show _ = Value.agg (arr 4 (rjF sd1 v last false)) by rw [← slabA_arr, HS1.out.1]; rfl) 39 HI5.out.1 (by kernel_rfl) (by omega) (fun j hj => rj_one4 hj) ?_; intro w7 hw7; rw [rj_put] at hw7; have HI7 : Hid (WrI w B sd1 v last false recs w7) := Lib.hid (by rw [hw7]; exact HI5.out.setRow sd1 last false); clear hw7))
          have HE : Hid (writeJ ⟨recs, last, false⟩ sd d = (⟨recs, last, true⟩, sd1, 90)) := Lib.hid (by rw [HWE.out, HLA.out, if_neg (show ¬ (90 : Int) = 0 by decide), HSD1.out]; dsimp only; rw [if_neg (show ¬ (90 : Int) = 0 by decide), if_pos rfl])
          have c37d : w7.cell? ⟨w.heap.size, 37, none⟩ = some (.bool false) := by rw [HI7.out.1.cell, arr_get, if_pos (by omega)]; rfl
          have f37 := HI7.out.1.frozen 37
          go_upto_region 11 with fail
          obtain ⟨W9, hW9⟩ : ∃ z, w7.setCell ⟨w.heap.size, 37, none⟩ (.bool true) = z := ⟨_, rfl⟩
          rw [hW9]
          have HI9 : Hid (WrI w B sd1 v last true recs W9) := Lib.hid (by rw [← hW9]; exact HI7.out.setDown true)
          clear hW9 c37d f37
          have hjv := rj_all (s := sd1) (l := last) (dn := true) HI9.out.one
          obtain ⟨z4, k4, hz4⟩ := HI9.out.2.1
          have k2 := HI9.out.1
          go_wp2_with (first
            | (guard_target = wpList _ _ _ (Oper.mk _ (.load 39 _) _ _ _ _ :: _) _ _; refine wpList_load_row rfl 39 _ rfl w.heap.size rfl 39 _ (0, 0) _ k2 Tryd.underlying39 rfl (by rw [arr_size]; kernel_rfl) ?_)
            | (guard_target = wpList _ _ _ (Oper.mk _ (.store 39 _ _) _ _ _ _ :: _) _ _; refine wpList_store_row rfl 39 _ _ rfl (w.heap.size + 1) (arr 38 (rjF sd1 v last true)) rfl rfl 39 _ k4 (by rw [arr_size]; kernel_rfl) (by rw [arr_size, hz4]) hjv ?_))
          refine bodyPost_ret (results_cell_tmp (p := 4) (q := 5) rfl _ _ (w.heap.size + 1) _ _ _ rfl (k4.setRow _) Tryd.underlying39 rfl (by rw [arr_size]; kernel_rfl)) rfl ?_
          rw [HE.out]
          exact ⟨v, rfl, (wr_ret HI9.out _).1, (wr_ret HI9.out _).2, .inl rfl⟩
        · (try rw [if_pos (by rfl)])
          go_simp
          first | refine alloc_genR ?_ | refine alloc_genRD ?_
          intro Wa hka hba
          have hg6 := hbX.size
          replace hbX : Below W.heap.size W Wa := by first | exact hbX.trans (hba.mono hbX.size) | exact hba
          clear hba
          try dsimp only
          refine hK.out _ _ (hbX) (fun hHeld => ?_)
          clear hK K
          try simp only [Act.put, List.setIfInBounds_toArray, List.set_cons_zero, List.set_cons_succ]
          refine wpAnyH_ready (rs := [6]) (by kernel_rfl) (by simp) ?_
          refine (AllReadyH.cons (o := ⟨some 23, _, _, _, _, _⟩) rfl (fun K hK => ?_) AllReadyH.nil)
          (try rw [if_pos (by rfl)])
          go_simp
          refine (HAPP.out _).mono ?_
          rintro e Wc ⟨rfl, hbc⟩
          replace hbX := hbX.trans (hbc.mono hbX.size)
          (try replace hka := Blk.below hka hbc (Blk.lt hka))
          clear hbc
          try dsimp only
          refine hK.out _ _ (hbX) (fun hHeld => ?_)
          clear hK K
          try simp only [Act.put, List.setIfInBounds_toArray, List.set_cons_zero, List.set_cons_succ]
          refine wpAnyH_take (i := 7) (oi := ⟨some 16, _, _, _, _, _⟩) (v := ?_) rfl (by kernel_rfl) (by kernel_rfl) (by kernel_rfl) (fun _ _ _ h => h) (Or.inl ⟨by rfl, ?_⟩) (by assumption) ?_
          rotate_left
          · intro w hSw; (try dsimp only at hSw); go_simp; try (with_reducible rfl)
          rotate_left 0
          try simp only [Act.put, List.setIfInBounds_toArray, List.set_cons_zero, List.set_cons_succ]
          refine wpAnyH_take (i := 8) (oi := ⟨some 24, _, _, _, _, _⟩) (v := ?_) rfl (by kernel_rfl) (by kernel_rfl) (by kernel_rfl) (fun _ _ _ h => h) (Or.inl ⟨by rfl, ?_⟩) (by assumption) ?_
          rotate_left
          · intro w hSw; (try dsimp only at hSw); go_simp; try (with_reducible rfl)
          rotate_left 0
          try simp only [Act.put, List.setIfInBounds_toArray, List.set_cons_zero, List.set_cons_succ]
          refine wpAnyH_take (i := 9) (oi := ⟨some 25, _, _, _, _, _⟩) (v := ?_) rfl (by kernel_rfl) (by kernel_rfl) (by kernel_rfl) (fun _ _ _ h => h) (Or.inl ⟨by rfl, ?_⟩) (by assumption) ?_
          rotate_left
          · intro w hSw; (try dsimp only at hSw); go_simp; try (with_reducible rfl)
          rotate_left 0
          try simp only [Act.put, List.setIfInBounds_toArray, List.set_cons_zero, List.set_cons_succ]
          refine wpAnyH_ready (rs := [11]) (by kernel_rfl) (by simp) ?_
          refine (AllReadyH.cons (o := ⟨none, _, _, _, _, _⟩) rfl (fun K hK => ?_) AllReadyH.nil)
          (try rw [if_pos (by rfl)])
          refine wp_store_row 29 _ _ rfl _ s1v rfl rfl 29 _ hka (by rw [HS1.out.2.1]; kernel_rfl) (by rw [HS1.out.2.1]; rfl) HS1.out.2.2 ?_
          replace hka := Blk.setRow hka s1v
          replace hbX := below_setRow hbX hg6 s1v
          try simp only [Act.put]
          try dsimp only
          refine hK.out _ _ (hbX) (fun hHeld => ?_)
          clear hK K
          try simp only [Act.put, List.setIfInBounds_toArray, List.set_cons_zero, List.set_cons_succ]
          refine wpAnyH_take (i := 12) (oi := ⟨some 7, _, _, _, _, _⟩) (v := ?_) rfl (by kernel_rfl) (by kernel_rfl) (by kernel_rfl) (fun _ _ _ h => h) (Or.inl ⟨by rfl, ?_⟩) (by assumption) ?_
          rotate_left
          · intro w hSw; (try dsimp only at hSw); go_simp; try (with_reducible rfl)
          rotate_left 0
          try simp only [Act.put, List.setIfInBounds_toArray, List.set_cons_zero, List.set_cons_succ]
          refine wpAnyH_done (by kernel_rfl) ?_ _
          have HI5 := Lib.hid (HI.out.below hbX)
          clear hbX hg6
          go_upto_region 7 with (first
            | (guard_target = wpList _ _ _ (Oper.mk _ (.load 29 _) _ _ _ _ :: _) _ _; refine wpList_load_row rfl 29 _ rfl _ rfl 29 s1v (0, 0) _ hka Tryd.underlying29 rfl (by rw [HS1.out.2.1]; kernel_rfl) ?_)
            | (guard_target = wpList _ _ _ (Oper.mk _ (.store 29 _ _) _ _ _ _ :: _) _ _; refine wpList_store_partJ rfl 29 _ _ rfl w.heap.size 0 4 38 (rjF sd v last false) (rjF sd1 v last false) rfl (show _ = Value.agg (arr 4 (rjF sd1 v last false)) by rw [← slabA_arr, HS1.out.1]; rfl) 39 HI5.out.1 (by kernel_rfl) (by omega) (fun j hj => rj_one4 hj) ?_; intro w7 hw7; rw [rj_put] at hw7; have HI7 : Hid (WrI w B sd1 v last false recs w7) := Lib.hid (by rw [hw7]; exact HI5.out.setRow sd1 last false); clear hw7))
          have HE : Hid (writeJ ⟨recs, last, false⟩ sd d = (⟨recs, last, true⟩, sd1, 90)) := Lib.hid (by rw [HWE.out, HLA.out, if_neg (show ¬ (90 : Int) = 0 by decide), HSD1.out]; dsimp only; rw [if_neg (show ¬ (90 : Int) = 0 by decide), if_pos rfl])
          have c37d : w7.cell? ⟨w.heap.size, 37, none⟩ = some (.bool false) := by rw [HI7.out.1.cell, arr_get, if_pos (by omega)]; rfl
          have f37 := HI7.out.1.frozen 37
          go_upto_region 11 with fail
          obtain ⟨W9, hW9⟩ : ∃ z, w7.setCell ⟨w.heap.size, 37, none⟩ (.bool true) = z := ⟨_, rfl⟩
          rw [hW9]
          have HI9 : Hid (WrI w B sd1 v last true recs W9) := Lib.hid (by rw [← hW9]; exact HI7.out.setDown true)
          clear hW9 c37d f37
          have hjv := rj_all (s := sd1) (l := last) (dn := true) HI9.out.one
          obtain ⟨z4, k4, hz4⟩ := HI9.out.2.1
          have k2 := HI9.out.1
          go_wp2_with (first
            | (guard_target = wpList _ _ _ (Oper.mk _ (.load 39 _) _ _ _ _ :: _) _ _; refine wpList_load_row rfl 39 _ rfl w.heap.size rfl 39 _ (0, 0) _ k2 Tryd.underlying39 rfl (by rw [arr_size]; kernel_rfl) ?_)
            | (guard_target = wpList _ _ _ (Oper.mk _ (.store 39 _ _) _ _ _ _ :: _) _ _; refine wpList_store_row rfl 39 _ _ rfl (w.heap.size + 1) (arr 38 (rjF sd1 v last true)) rfl rfl 39 _ k4 (by rw [arr_size]; kernel_rfl) (by rw [arr_size, hz4]) hjv ?_))
          refine bodyPost_ret (results_cell_tmp (p := 4) (q := 5) rfl _ _ (w.heap.size + 1) _ _ _ rfl (k4.setRow _) Tryd.underlying39 rfl (by rw [arr_size]; kernel_rfl)) rfl ?_
          rw [HE.out]
          exact ⟨v, rfl, (wr_ret HI9.out _).1, (wr_ret HI9.out _).2, .inl rfl⟩
      · (try rw [if_pos (by rfl)])
        go_simp
        first | refine alloc_genR ?_ | refine alloc_genRD ?_
        intro Wa hka hba
        have hg6 := hbX.size
        replace hbX : Below W.heap.size W Wa := by first | exact hbX.trans (hba.mono hbX.size) | exact hba
        clear hba
        try dsimp only
        refine hK.out _ _ (hbX) (fun hHeld => ?_)
        clear hK K
        try simp only [Act.put, List.setIfInBounds_toArray, List.set_cons_zero, List.set_cons_succ]
        refine wpAnyH_ready (rs := [5]) (by kernel_rfl) (by simp) ?_
        refine (AllReadyH.cons (o := ⟨some 22, _, _, _, _, _⟩) rfl (fun K hK => ?_) AllReadyH.nil)
        (try rw [if_pos (by rfl)])
        go_simp
        refine (HREC.out _).mono ?_
        rintro e Wc ⟨rfl, hbc⟩
        replace hbX := hbX.trans (hbc.mono hbX.size)
        (try replace hka := Blk.below hka hbc (Blk.lt hka))
        clear hbc
        try dsimp only
        refine hK.out _ _ (hbX) (fun hHeld => ?_)
        clear hK K
        try simp only [Act.put, List.setIfInBounds_toArray, List.set_cons_zero, List.set_cons_succ]
        refine wpAnyH_ready (rs := [6]) (by kernel_rfl) (by simp) ?_
        refine (AllReadyH.cons (o := ⟨some 23, _, _, _, _, _⟩) rfl (fun K hK => ?_) AllReadyH.nil)
        (try rw [if_pos (by rfl)])
        go_simp
        refine (HAPP.out _).mono ?_
        rintro e Wc ⟨rfl, hbc⟩
        replace hbX := hbX.trans (hbc.mono hbX.size)
        (try replace hka := Blk.below hka hbc (Blk.lt hka))
        clear hbc
        try dsimp only
        refine hK.out _ _ (hbX) (fun hHeld => ?_)
        clear hK K
        try simp only [Act.put, List.setIfInBounds_toArray, List.set_cons_zero, List.set_cons_succ]
        refine wpAnyH_take (i := 7) (oi := ⟨some 16, _, _, _, _, _⟩) (v := ?_) rfl (by kernel_rfl) (by kernel_rfl) (by kernel_rfl) (fun _ _ _ h => h) (Or.inl ⟨by rfl, ?_⟩) (by assumption) ?_
        rotate_left
        · intro w hSw; (try dsimp only at hSw); go_simp; try (with_reducible rfl)
        rotate_left 0
        try simp only [Act.put, List.setIfInBounds_toArray, List.set_cons_zero, List.set_cons_succ]
        refine wpAnyH_take (i := 8) (oi := ⟨some 24, _, _, _, _, _⟩) (v := ?_) rfl (by kernel_rfl) (by kernel_rfl) (by kernel_rfl) (fun _ _ _ h => h) (Or.inl ⟨by rfl, ?_⟩) (by assumption) ?_
        rotate_left
        · intro w hSw; (try dsimp only at hSw); go_simp; try (with_reducible rfl)
        rotate_left 0
        try simp only [Act.put, List.setIfInBounds_toArray, List.set_cons_zero, List.set_cons_succ]
        refine wpAnyH_take (i := 9) (oi := ⟨some 25, _, _, _, _, _⟩) (v := ?_) rfl (by kernel_rfl) (by kernel_rfl) (by kernel_rfl) (fun _ _ _ h => h) (Or.inl ⟨by rfl, ?_⟩) (by assumption) ?_
        rotate_left
        · intro w hSw; (try dsimp only at hSw); go_simp; try (with_reducible rfl)
        rotate_left 0
        try simp only [Act.put, List.setIfInBounds_toArray, List.set_cons_zero, List.set_cons_succ]
        refine wpAnyH_ready (rs := [11]) (by kernel_rfl) (by simp) ?_
        refine (AllReadyH.cons (o := ⟨none, _, _, _, _, _⟩) rfl (fun K hK => ?_) AllReadyH.nil)
        (try rw [if_pos (by rfl)])
        refine wp_store_row 29 _ _ rfl _ s1v rfl rfl 29 _ hka (by rw [HS1.out.2.1]; kernel_rfl) (by rw [HS1.out.2.1]; rfl) HS1.out.2.2 ?_
        replace hka := Blk.setRow hka s1v
        replace hbX := below_setRow hbX hg6 s1v
        try simp only [Act.put]
        try dsimp only
        refine hK.out _ _ (hbX) (fun hHeld => ?_)
        clear hK K
        try simp only [Act.put, List.setIfInBounds_toArray, List.set_cons_zero, List.set_cons_succ]
        refine wpAnyH_take (i := 12) (oi := ⟨some 7, _, _, _, _, _⟩) (v := ?_) rfl (by kernel_rfl) (by kernel_rfl) (by kernel_rfl) (fun _ _ _ h => h) (Or.inl ⟨by rfl, ?_⟩) (by assumption) ?_
        rotate_left
        · intro w hSw; (try dsimp only at hSw); go_simp; try (with_reducible rfl)
        rotate_left 0
        try simp only [Act.put, List.setIfInBounds_toArray, List.set_cons_zero, List.set_cons_succ]
        refine wpAnyH_done (by kernel_rfl) ?_ _
        have HI5 := Lib.hid (HI.out.below hbX)
        clear hbX hg6
        go_upto_region 7 with (first
          | (guard_target = wpList _ _ _ (Oper.mk _ (.load 29 _) _ _ _ _ :: _) _ _; refine wpList_load_row rfl 29 _ rfl _ rfl 29 s1v (0, 0) _ hka Tryd.underlying29 rfl (by rw [HS1.out.2.1]; kernel_rfl) ?_)
          | (guard_target = wpList _ _ _ (Oper.mk _ (.store 29 _ _) _ _ _ _ :: _) _ _; refine wpList_store_partJ rfl 29 _ _ rfl w.heap.size 0 4 38 (rjF sd v last false) (rjF sd1 v last false) rfl (show _ = Value.agg (arr 4 (rjF sd1 v last false)) by rw [← slabA_arr, HS1.out.1]; rfl) 39 HI5.out.1 (by kernel_rfl) (by omega) (fun j hj => rj_one4 hj) ?_; intro w7 hw7; rw [rj_put] at hw7; have HI7 : Hid (WrI w B sd1 v last false recs w7) := Lib.hid (by rw [hw7]; exact HI5.out.setRow sd1 last false); clear hw7))
        have HE : Hid (writeJ ⟨recs, last, false⟩ sd d = (⟨recs, last, true⟩, sd1, 90)) := Lib.hid (by rw [HWE.out, HLA.out, if_neg (show ¬ (90 : Int) = 0 by decide), HSD1.out]; dsimp only; rw [if_neg (show ¬ (90 : Int) = 0 by decide), if_pos rfl])
        have c37d : w7.cell? ⟨w.heap.size, 37, none⟩ = some (.bool false) := by rw [HI7.out.1.cell, arr_get, if_pos (by omega)]; rfl
        have f37 := HI7.out.1.frozen 37
        go_upto_region 11 with fail
        obtain ⟨W9, hW9⟩ : ∃ z, w7.setCell ⟨w.heap.size, 37, none⟩ (.bool true) = z := ⟨_, rfl⟩
        rw [hW9]
        have HI9 : Hid (WrI w B sd1 v last true recs W9) := Lib.hid (by rw [← hW9]; exact HI7.out.setDown true)
        clear hW9 c37d f37
        have hjv := rj_all (s := sd1) (l := last) (dn := true) HI9.out.one
        obtain ⟨z4, k4, hz4⟩ := HI9.out.2.1
        have k2 := HI9.out.1
        go_wp2_with (first
          | (guard_target = wpList _ _ _ (Oper.mk _ (.load 39 _) _ _ _ _ :: _) _ _; refine wpList_load_row rfl 39 _ rfl w.heap.size rfl 39 _ (0, 0) _ k2 Tryd.underlying39 rfl (by rw [arr_size]; kernel_rfl) ?_)
          | (guard_target = wpList _ _ _ (Oper.mk _ (.store 39 _ _) _ _ _ _ :: _) _ _; refine wpList_store_row rfl 39 _ _ rfl (w.heap.size + 1) (arr 38 (rjF sd1 v last true)) rfl rfl 39 _ k4 (by rw [arr_size]; kernel_rfl) (by rw [arr_size, hz4]) hjv ?_))
        refine bodyPost_ret (results_cell_tmp (p := 4) (q := 5) rfl _ _ (w.heap.size + 1) _ _ _ rfl (k4.setRow _) Tryd.underlying39 rfl (by rw [arr_size]; kernel_rfl)) rfl ?_
        rw [HE.out]
        exact ⟨v, rfl, (wr_ret HI9.out _).1, (wr_ret HI9.out _).2, .inl rfl⟩
end Go.Proofs.YtgpbpdjamimbfaaDoor
