/-
  Reference of audit: Twice. In whatever memory. No condition but on the list's lengths.
-/
import Derived.Test.YtjdgcciemlfapaaBkRef
import Derived.Test.YtjdgcciemlfapaaAudTw
namespace Go.Proofs.Ytjdgcciemlfapaa
open Go Go.RowKit Go.Shelf Go.Maps PackMath
attribute [local go_sem] Oper.semAt_some

def NameOut (bs : List UInt8) (e : Ending) : Prop := match nameA bs with
  | none => ∃ (V : Array Value) (c : Nat), e = .returned (.tuple #[.agg V, .int .i64 (c : Int)]) ∧ c ≠ 0 ∧ V.size = 41 ∧ V.all (·.oneCell') = true
  | some nm => ∃ V : Array Value, e = .returned (.tuple #[.agg V, .int .i64 0]) ∧ V.size = 41 ∧ V.all (·.oneCell') = true ∧ V[1]? = some (.int .i64 nm.1) ∧ V[5]? = some (.int .i64 nm.2)
theorem refCheck_name (bs : List UInt8) (hm : bs.length ≤ 140737488351232) (w : World) : Calls Try.prog 31 #[.string ⟨bs.toArray⟩] w fun e w' => NameOut bs e ∧ Below w.heap.size w w' := (refBkCheck_any bs hm w).mono fun e w' h => by
  refine ⟨?_, h.2⟩
  have h1 := h.1
  unfold RefCheckOut at h1
  unfold NameOut nameA
  cases hc : checkA bs with
  | error c =>
    rw [hc] at h1
    exact ⟨_, c, h1.1, h1.2, arr_size _ _, msg_all (zero_rd w (fun _ => False) 0)⟩
  | ok r =>
    rw [hc] at h1
    obtain ⟨r', d, i, l, hm', hN', hN, he, ha⟩ := h1
    obtain ⟨a0, a1, a2, a3, a4, a5, _⟩ := Raw.alike hm' hN' hN
    refine ⟨_, he, arr_size _ _, ha, ?_, ?_⟩
    · rw [msgA, arr_get, ← a1]; rfl
    · rw [msgA, arr_get, ← a5]; rfl
theorem lookN_at {l : List (List UInt8)} {k i : Nat} {nm : Int × Int} (hi : i < k) (h : nameA (l.getD i []) = some nm) (hb : ∀ j, j < i → nameA (l.getD j []) ≠ some nm) : lookN l k nm = some i := by
  unfold lookN
  rw [List.find?_range_eq_some]
  exact ⟨by simpa using h, List.mem_range.2 hi, fun j hj => by simpa using hb j hj⟩
theorem lookN_no {l : List (List UInt8)} {k : Nat} {nm : Int × Int} (hb : ∀ j, j < k → nameA (l.getD j []) ≠ some nm) : lookN l k nm = none := by
  unfold lookN
  rw [List.find?_eq_none]
  intro j hj
  simpa using hb j (List.mem_range.1 hj)
def twI (l : List (List UInt8)) : Int × Int := match twL l with
  | some (i, k) => ((i : Int), (k : Int))
  | none => (0, 0)
set_option maxRecDepth 100000 in
set_option maxHeartbeats 16000000 in
theorem refTwiceA_any (A : Option Addr) (c : Nat) (l : List (List UInt8)) (w : World) (hr : RdP w (fun b => b < w.heap.size) A l) (hl : l.length ≤ 1000) (hb : ∀ b ∈ l, b.length ≤ 1000) :
    Calls Try.prog 15 #[.slice A l.length c] w fun e w' => e = .returned (.tuple #[.int .i64 (twI l).1, .int .i64 (twI l).2, .bool (twL l).isSome]) ∧ Below w.heap.size w w' := by
  have HR := Lib.hid hr
  have HB := Lib.hid hb
  obtain ⟨n, hn⟩ : ∃ z, l.length = z := ⟨_, rfl⟩
  rw [hn] at hl
  rw [hn]
  have HN := Lib.hid hn
  clear hr hn hb
  go_enter Try.func15, Try.ntmps15
  go_wp2_with fail
  go_loopw [5] (fun i wr => ∃ a : Nat, a ≤ n ∧ i = .int .i64 (a : Int) ∧ (∀ j, j < a → twAt l j = none) ∧ Below w.heap.size w wr) (fun i _ => n - (intOf i).toNat)
  case atStart => exact ⟨0, Nat.zero_le _, rfl, fun j hj => by omega, Below.refl _ _⟩
  case round =>
    obtain ⟨a, ha, rfl, hall, hba⟩ := hrel
    obtain ⟨wa, hwa⟩ : ∃ z, z = wr := ⟨_, rfl⟩
    subst hwa
    have HALL := Lib.hid hall
    have HBA := Lib.hid hba
    clear hall hba
    by_cases han : a < n
    · have hai : (a : Int) < (n : Int) := by omega
      obtain ⟨ad1, Ax1, cx1, rfl, hxl1, hcx1, hrx1, hxn1⟩ := HR.out.at (k := a) (by rw [HN.out]; omega)
      have hbx1 := HB.out _ (getD_mem (l := l) [] (show a < l.length by rw [HN.out]; omega))
      obtain ⟨x1, hx1⟩ : ∃ z, l.getD a [] = z := ⟨_, rfl⟩
      rw [hx1] at hcx1 hrx1 hbx1
      have HX1 := Lib.hid hx1
      have hcw1 := (HBA.out.cell (p := ad1.add a) (by rw [block_add]; exact hxl1)).trans hcx1
      have hcv1 : (convert 24 9 (.slice Ax1 x1.length cx1)).run Try.prog wa = .ok (.string ⟨x1.toArray⟩) wa := str_rd (hrx1.kept (W' := wa) fun p u hp q => (HBA.out.cell (p := p) hp).trans q)
      have HCK1 := Lib.hid (refCheck_name x1 (by omega) wa)
      obtain ⟨xn1, hxnn1⟩ : ∃ z, x1.length = z := ⟨_, rfl⟩
      rw [hxnn1] at hcw1 hcv1
      obtain ⟨S1, hS1⟩ : ∃ z : ByteArray, ⟨x1.toArray⟩ = z := ⟨_, rfl⟩
      rw [hS1] at hcv1 HCK1
      clear hcx1 hrx1 hx1 hxl1 hxn1 hxnn1 hbx1 hS1
      cases hnm : nameA x1 with
      | none =>
        have HC1 : Hid (Calls Try.prog 31 #[.string S1] wa fun e w' => (∃ (V : Array Value) (c : Nat), e = .returned (.tuple #[.agg V, .int .i64 (c : Int)]) ∧ c ≠ 0 ∧ V.size = 41 ∧ V.all (·.oneCell') = true) ∧ Below wa.heap.size wa w') := Lib.hid (HCK1.out.mono fun e w' h => ⟨by have := h.1; unfold NameOut at this; rw [hnm] at this; exact this, h.2⟩)
        have HTW : Hid (twAt l a = none) := Lib.hid (by unfold twAt; rw [HX1.out, hnm]; rfl)
        clear hnm HCK1
        go_wp2_with (first
          | (go_at_call 31; refine HC1.out.mono ?_; rintro e W5 ⟨⟨V1, c1, rfl, hc1, hs1, ha1⟩, hb5⟩; have HVS1 : Hid (V1.size = 41) := Lib.hid hs1; have HVA1 : Hid (V1.all (·.oneCell') = true) := Lib.hid ha1; have HB5 := Lib.hid hb5; have e10 : ((c1 : Int) == 0) = false := (by simpa using hc1); have e11 : ((c1 : Int) != 0) = true := (by simpa using hc1); clear hs1 ha1 hb5 hc1)
          | (guard_target = wpList _ _ _ (Oper.mk _ (.store 28 (.tmp 6) _) _ _ _ _ :: _) _ _; refine wpList_store_row rfl 28 _ _ rfl W5.heap.size V1 rfl rfl 28 _ (heap_alloc_new W5 _) (by rw [HVS1.out]; kernel_rfl) (by rw [HVS1.out]; rfl) HVA1.out ?_; rw [World.setRow_alloc_new]))
        go_roundw
        · exact ⟨a + 1, by omega, by go_num, fun j hj => by
            by_cases e : j = a
            · rw [e]; exact HTW.out
            · exact HALL.out j (by omega), HBA.out.trans ((HB5.out.mono HBA.out.size).alloc (Nat.le_trans HBA.out.size HB5.out.size) _)⟩
        · simp [intOf]
          omega
      | some nm =>
        obtain ⟨u, v⟩ := nm
        have HC1 : Hid (Calls Try.prog 31 #[.string S1] wa fun e w' => (∃ V : Array Value, e = .returned (.tuple #[.agg V, .int .i64 0]) ∧ V.size = 41 ∧ V.all (·.oneCell') = true ∧ V[1]? = some (.int .i64 u) ∧ V[5]? = some (.int .i64 v)) ∧ Below wa.heap.size wa w') := Lib.hid (HCK1.out.mono fun e w' h => ⟨by have := h.1; unfold NameOut at this; rw [hnm] at this; exact this, h.2⟩)
        have HNM : Hid (nameA (l.getD a []) = some (u, v)) := Lib.hid (by rw [HX1.out, hnm])
        clear hnm HCK1
        go_upto_region 4 with fail
        go_upto_region 5 with (first
          | (go_at_call 31; refine HC1.out.mono ?_; rintro e W5 ⟨⟨V1, rfl, hs1, ha1, hv11, hv51⟩, hb5⟩; have HVS1 : Hid (V1.size = 41) := Lib.hid hs1; have HVA1 : Hid (V1.all (·.oneCell') = true) := Lib.hid ha1; have HV1 := Lib.hid (And.intro hv11 hv51); have HB5 := Lib.hid hb5; clear hs1 ha1 hb5 hv11 hv51)
          | (guard_target = wpList _ _ _ (Oper.mk _ (.store 28 (.tmp 6) _) _ _ _ _ :: _) _ _; refine wpList_store_row rfl 28 _ _ rfl W5.heap.size V1 rfl rfl 28 _ (heap_alloc_new W5 _) (by rw [HVS1.out]; kernel_rfl) (by rw [HVS1.out]; rfl) HVA1.out ?_; rw [World.setRow_alloc_new]))
        obtain ⟨W6, hW6⟩ : ∃ z, W5.alloc (.cells V1 28) = z := ⟨_, rfl⟩
        rw [hW6]
        have HK6 : Hid (Blk W6 W5.heap.size 28 V1) := Lib.hid (by rw [← hW6]; exact Blk.newAt _ _ rfl rfl)
        have HW6 : Hid (Below w.heap.size w W6) := Lib.hid (by rw [← hW6]; exact HBA.out.trans ((HB5.out.mono HBA.out.size).alloc (Nat.le_trans HBA.out.size HB5.out.size) _))
        clear hW6 hcw1 hcv1 HC1
        obtain ⟨g6, hg6⟩ : ∃ z, W5.heap.size = z := ⟨_, rfl⟩
        rw [hg6] at HK6
        rw [hg6]
        clear hg6
        go_wp2_with fail
        go_loopw [8] (fun s wr => ∃ b : Nat, b ≤ a ∧ s = .int .i64 (b : Int) ∧ (∀ j, j < b → nameA (l.getD j []) ≠ some (u, v)) ∧ Below W6.heap.size W6 wr) (fun s _ => a - (intOf s).toNat)
        case atStart => exact ⟨0, Nat.zero_le _, rfl, fun j hj => by omega, Below.refl _ _⟩
        case round =>
          obtain ⟨b, hba, rfl, hno, hbq⟩ := hrel
          obtain ⟨wq, hwq⟩ : ∃ z, z = wr := ⟨_, rfl⟩
          subst hwq
          have HNO := Lib.hid hno
          have HBQ := Lib.hid hbq
          have HOLD := Lib.hid (HW6.out.trans (hbq.mono HW6.out.size))
          have HKQ := Lib.hid (HK6.out.below hbq HK6.out.lt)
          clear hno hbq
          by_cases hbl : b < a
          · have hbi : (b : Int) < (a : Int) := by omega
            obtain ⟨ad2, Ax2, cx2, eA2, hxl2, hcx2, hrx2, hxn2⟩ := HR.out.at (k := b) (by rw [HN.out]; omega)
            obtain rfl := Option.some.inj eA2
            have hbx2 := HB.out _ (getD_mem (l := l) [] (show b < l.length by rw [HN.out]; omega))
            obtain ⟨x2, hx2⟩ : ∃ z, l.getD b [] = z := ⟨_, rfl⟩
            rw [hx2] at hcx2 hrx2 hbx2
            have HX2 := Lib.hid hx2
            have hcw2 := (HOLD.out.cell (p := ad1.add b) (by rw [block_add]; exact hxl2)).trans hcx2
            have hcv2 : (convert 24 9 (.slice Ax2 x2.length cx2)).run Try.prog wq = .ok (.string ⟨x2.toArray⟩) wq := str_rd (hrx2.kept (W' := wq) fun p u hp q => (HOLD.out.cell (p := p) hp).trans q)
            have HCK2 := Lib.hid (refCheck_name x2 (by omega) wq)
            obtain ⟨xn2, hxnn2⟩ : ∃ z, x2.length = z := ⟨_, rfl⟩
            rw [hxnn2] at hcw2 hcv2
            obtain ⟨S2, hS2⟩ : ∃ z : ByteArray, ⟨x2.toArray⟩ = z := ⟨_, rfl⟩
            rw [hS2] at hcv2 HCK2
            clear hcx2 hrx2 hx2 hxl2 hxn2 hxnn2 hbx2 hS2
            cases hnm2 : nameA x2 with
            | none =>
              have HC2 : Hid (Calls Try.prog 31 #[.string S2] wq fun e w' => (∃ (V : Array Value) (c : Nat), e = .returned (.tuple #[.agg V, .int .i64 (c : Int)]) ∧ c ≠ 0 ∧ V.size = 41 ∧ V.all (·.oneCell') = true) ∧ Below wq.heap.size wq w') := Lib.hid (HCK2.out.mono fun e w' h => ⟨by have := h.1; unfold NameOut at this; rw [hnm2] at this; exact this, h.2⟩)
              have HNB : Hid (nameA (l.getD b []) ≠ some (u, v)) := Lib.hid (by rw [HX2.out, hnm2]; simp)
              clear hnm2 HCK2
              go_wp2_with (first
                | (go_at_call 31; refine HC2.out.mono ?_; rintro e W7 ⟨⟨V2, c2, rfl, hc2, hs2, ha2⟩, hb7⟩; have HVS2 : Hid (V2.size = 41) := Lib.hid hs2; have HVA2 : Hid (V2.all (·.oneCell') = true) := Lib.hid ha2; have HB7 := Lib.hid hb7; have e20 : ((c2 : Int) == 0) = false := (by simpa using hc2); have e21 : ((c2 : Int) != 0) = true := (by simpa using hc2); clear hs2 ha2 hb7 hc2)
                | (guard_target = wpList _ _ _ (Oper.mk _ (.store 28 (.tmp 9) _) _ _ _ _ :: _) _ _; refine wpList_store_row rfl 28 _ _ rfl W7.heap.size V2 rfl rfl 28 _ (heap_alloc_new W7 _) (by rw [HVS2.out]; kernel_rfl) (by rw [HVS2.out]; rfl) HVA2.out ?_; rw [World.setRow_alloc_new]))
              go_roundw
              · exact ⟨b + 1, by omega, by go_num, fun j hj => by
                  by_cases e : j = b
                  · rw [e]; exact HNB.out
                  · exact HNO.out j (by omega), HBQ.out.trans ((HB7.out.mono HBQ.out.size).alloc (Nat.le_trans HBQ.out.size HB7.out.size) _)⟩
              · simp [intOf]
                omega
            | some nm2 =>
              obtain ⟨p, q⟩ := nm2
              have HC2 : Hid (Calls Try.prog 31 #[.string S2] wq fun e w' => (∃ V : Array Value, e = .returned (.tuple #[.agg V, .int .i64 0]) ∧ V.size = 41 ∧ V.all (·.oneCell') = true ∧ V[1]? = some (.int .i64 p) ∧ V[5]? = some (.int .i64 q)) ∧ Below wq.heap.size wq w') := Lib.hid (HCK2.out.mono fun e w' h => ⟨by have := h.1; unfold NameOut at this; rw [hnm2] at this; exact this, h.2⟩)
              have HN2 : Hid (nameA (l.getD b []) = some (p, q)) := Lib.hid (by rw [HX2.out, hnm2])
              clear hnm2 HCK2
              go_upto_region 9 with fail
              go_upto_region 10 with (first
                | (go_at_call 31; refine HC2.out.mono ?_; rintro e W7 ⟨⟨V2, rfl, hs2, ha2, hv12, hv52⟩, hb7⟩; have HVS2 : Hid (V2.size = 41) := Lib.hid hs2; have HVA2 : Hid (V2.all (·.oneCell') = true) := Lib.hid ha2; have HV2 := Lib.hid (And.intro hv12 hv52); have HB7 := Lib.hid hb7; clear hs2 ha2 hb7 hv12 hv52)
                | (guard_target = wpList _ _ _ (Oper.mk _ (.store 28 (.tmp 9) _) _ _ _ _ :: _) _ _; refine wpList_store_row rfl 28 _ _ rfl W7.heap.size V2 rfl rfl 28 _ (heap_alloc_new W7 _) (by rw [HVS2.out]; kernel_rfl) (by rw [HVS2.out]; rfl) HVA2.out ?_; rw [World.setRow_alloc_new]))
              obtain ⟨W8, hW8⟩ : ∃ z, W7.alloc (.cells V2 28) = z := ⟨_, rfl⟩
              rw [hW8]
              have hk8 : Blk W8 W7.heap.size 28 V2 := by rw [← hW8]; exact Blk.newAt _ _ rfl rfl
              have HB8 : Hid (Below wq.heap.size wq W8) := Lib.hid (by rw [← hW8]; exact HB7.out.alloc HB7.out.size _)
              have hk6 := HKQ.out.below HB8.out HKQ.out.lt
              have c81 : W8.cell? ⟨W7.heap.size, 1, none⟩ = some (.int .i64 p) := by rw [hk8.cell, HV2.out.1]
              have c85 : W8.cell? ⟨W7.heap.size, 5, none⟩ = some (.int .i64 q) := by rw [hk8.cell, HV2.out.2]
              have c61 : W8.cell? ⟨g6, 1, none⟩ = some (.int .i64 u) := by rw [hk6.cell, HV1.out.1]
              have c65 : W8.cell? ⟨g6, 5, none⟩ = some (.int .i64 v) := by rw [hk6.cell, HV1.out.2]
              obtain ⟨g8, hg8⟩ : ∃ z, W7.heap.size = z := ⟨_, rfl⟩
              rw [hg8] at c81 c85
              rw [hg8]
              clear hg8 hW8 hk8 hk6 hcw2 hcv2 HC2
              by_cases hpu : p = u
              · subst hpu
                by_cases hqv : q = v
                · subst hqv
                  have HTW : Hid (twL l = some (b, a)) := Lib.hid (twL_some (by rw [HN.out]; exact han) (by unfold twAt; rw [HNM.out]; simp only [Option.bind_some]; rw [lookN_at hbl HN2.out HNO.out]; rfl) HALL.out)
                  have HRES : Hid (twI l = ((b : Int), (a : Int)) ∧ (twL l).isSome = true) := Lib.hid ⟨by unfold twI; rw [HTW.out], by rw [HTW.out]; rfl⟩
                  go_wp2_with fail
                  go_ret3
                  rw [HRES.out.1, HRES.out.2]
                  exact ⟨rfl, HOLD.out.trans (HB8.out.mono HOLD.out.size)⟩
                · have e8 : (q == v) = false := by simpa using hqv
                  have HNB : Hid (nameA (l.getD b []) ≠ some (p, v)) := Lib.hid (by rw [HN2.out]; intro h; injection h with h; injection h with _ h; exact hqv h)
                  clear hqv
                  go_wp2_with fail
                  go_roundw
                  · exact ⟨b + 1, by omega, by go_num, fun j hj => by
                      by_cases e : j = b
                      · rw [e]; exact HNB.out
                      · exact HNO.out j (by omega), HBQ.out.trans (HB8.out.mono HBQ.out.size)⟩
                  · simp [intOf]
                    omega
              · have e8 : (p == u) = false := by simpa using hpu
                have HNB : Hid (nameA (l.getD b []) ≠ some (u, v)) := Lib.hid (by rw [HN2.out]; intro h; injection h with h; injection h with h _; exact hpu h)
                clear hpu
                go_wp2_with fail
                go_roundw
                · exact ⟨b + 1, by omega, by go_num, fun j hj => by
                    by_cases e : j = b
                    · rw [e]; exact HNB.out
                    · exact HNO.out j (by omega), HBQ.out.trans (HB8.out.mono HBQ.out.size)⟩
                · simp [intOf]
                  omega
          · obtain rfl : b = a := by omega
            have HTW : Hid (twAt l b = none) := Lib.hid (by unfold twAt; rw [HNM.out]; simp only [Option.bind_some]; rw [lookN_no HNO.out]; rfl)
            go_wp2_with fail
            go_roundw
            · exact ⟨b + 1, by omega, by go_num, fun j hj => by
                by_cases e : j = b
                · rw [e]; exact HTW.out
                · exact HALL.out j (by omega), HOLD.out⟩
            · simp [intOf]
              omega
    · obtain rfl : a = n := by omega
      have HTW : Hid (twL l = none) := Lib.hid (twL_none (by rw [HN.out]; exact HALL.out))
      have HRES : Hid (twI l = (0, 0) ∧ (twL l).isSome = false) := Lib.hid ⟨by unfold twI; rw [HTW.out], by rw [HTW.out]; rfl⟩
      go_wp2_with fail
      go_ret3
      rw [HRES.out.1, HRES.out.2]
      exact ⟨rfl, HBA.out⟩
end Go.Proofs.Ytjdgcciemlfapaa
