/-
  Audit: slices of slices of slices of bytes; few; the longest list. In whatever memory. No condition.
-/
import Derived.Test.YtalacjmcllfdhaaAudMath
import Derived.Test.YtalacjmcllfdhaaPackStr
import Derived.Test.YtalacjmcllfdhaaOps
import Derived.Laws.Tables
import Derived.Test.YtalacjmcllfdhaaRowC
import Derived.Test.YtalacjmcllfdhaaSeqD
import Derived.Test.YtalacjmcllfdhaaMapV
import Derived.Lib.Hide
import Derived.WalkMore
import Derived.Deep.CutRange
import Derived.Deep.RegionLaw
import Derived.Deep.RegionHeld3
import Derived.OwnWalk
namespace Go.Proofs.Ytalacjmcllfdhaa
open Go Go.RowKit Go.Shelf

/-- A slice of slices of slices of bytes. -/
def RdPP (W : World) (ok : Nat → Prop) (A : Option Addr) (L : List (List (List UInt8))) : Prop :=
  ∀ k, k < L.length → ∃ (ad : Addr) (A' : Option Addr) (c' : Nat), A = some ad ∧ ok ad.block ∧ W.cell? (ad.add k) = some (.slice A' (L.getD k []).length c') ∧ (L.getD k []).length ≤ 140737488351232 ∧ RdP W ok A' (L.getD k [])
theorem RdPP.kept {W W' : World} {ok : Nat → Prop} {A : Option Addr} {L : List (List (List UInt8))} (h : RdPP W ok A L) (hk : ∀ (a : Addr) (x : Value), ok a.block → W.cell? a = some x → W'.cell? a = some x) : RdPP W' ok A L := fun k hlt => by
  obtain ⟨ad, A', c', h1, h2, h3, h4, h5⟩ := h k hlt
  exact ⟨ad, A', c', h1, h2, hk _ _ (by rw [block_add]; exact h2) h3, h4, h5.kept hk⟩
theorem RdPP.old {W W' : World} {B : Nat} {A : Option Addr} {L : List (List (List UInt8))} (h : RdPP W (fun b => b < B) A L) (hb : Below B W W') : RdPP W' (fun b => b < B) A L := h.kept fun a _ ha hx => (hb.cell (p := a) ha).trans hx
theorem RdP.at {W : World} {ok : Nat → Prop} {A : Option Addr} {l : List (List UInt8)} (h : RdP W ok A l) {k : Nat} (hk : k < l.length) : ∃ (ad : Addr) (A' : Option Addr) (c' : Nat), A = some ad ∧ ok ad.block ∧ W.cell? (ad.add k) = some (.slice A' (l.getD k []).length c') ∧ RdB W ok (.slice A' (l.getD k []).length c') (l.getD k []) ∧ (l.getD k []).length ≤ 140737488351232 := by
  obtain ⟨ad, v, h1, h2, h3, h4⟩ := h k hk
  obtain ⟨A', c', rfl, h5, h6, h7⟩ := id h4
  exact ⟨ad, A', c', h1, h2, h3, h4, h6⟩
theorem getD_take {α : Type} {l : List α} {k : Nat} (d : α) (hk : k < l.length) : l.take (k + 1) = l.take k ++ [l.getD k d] := by
  rw [List.take_succ_eq_append_getElem hk, List.getD_eq_getElem?_getD, List.getElem?_eq_getElem hk]
  rfl
theorem getD_mem {α : Type} {l : List α} {k : Nat} (d : α) (hk : k < l.length) : l.getD k d ∈ l := by
  rw [List.getD_eq_getElem?_getD, List.getElem?_eq_getElem hk]
  exact List.getElem_mem hk
theorem getD_at {α : Type} {l : List α} {k : Nat} (d : α) (hk : k < l.length) : l[k]? = some (l.getD k d) := by
  rw [List.getD_eq_getElem?_getD, List.getElem?_eq_getElem hk]
  rfl
/-- Are lists of a size with which this is tried? -/
def okL (l : List (List UInt8)) : Prop := l.length ≤ 12 ∧ ∀ b ∈ l, b.length ≤ 1000
def FewL (L : List (List (List UInt8))) : Prop := L.length ≤ 8 ∧ ∀ l ∈ L, okL l
set_option maxRecDepth 100000 in
set_option maxHeartbeats 4000000 in
theorem few_any (A : Option Addr) (c : Nat) (L : List (List (List UInt8))) (ok : Nat → Prop) (w : World) (hr : RdPP w ok A L) (hm : L.length ≤ 140737488351232) :
    Calls Try.prog 6 #[.slice A L.length c] w fun e w' => ∃ b, e = .returned (.bool b) ∧ (b = true ↔ FewL L) ∧ w = w' := by
  have HR := Lib.hid hr
  obtain ⟨n, hn⟩ : ∃ n, L.length = n := ⟨_, rfl⟩
  have HN := Lib.hid hn
  rw [hn] at hm ⊢
  clear hr hn
  by_cases h8 : 8 < n
  · have e1 : decide ((n : Int) > 8) = true := decide_eq_true (by omega)
    go_enter Try.func6, Try.ntmps6
    go_wp2
    go_ret
    exact ⟨false, rfl, ⟨fun h => (by cases h), fun h => by have := h.1; rw [HN.out] at this; omega⟩, rfl⟩
  · have e1 : decide ((n : Int) > 8) = false := decide_eq_false (by omega)
    go_enter Try.func6, Try.ntmps6
    go_wp2_with fail
    go_loopw [12] (fun i wr => ∃ k : Nat, k ≤ n ∧ i = .int .i64 (k : Int) ∧ w = wr ∧ ∀ l ∈ L.take k, okL l) (fun i _ => n - (intOf i).toNat)
    case atStart => exact ⟨0, Nat.zero_le _, rfl, rfl, by simp⟩
    case round =>
      obtain ⟨k, hk, rfl, rfl, hok⟩ := hrel
      by_cases hkn : k < n
      · have hki : (k : Int) < (n : Int) := by omega
        obtain ⟨ad, A', c', rfl, _, hcell, hlb, hrd⟩ := HR.out k (by rw [HN.out]; exact hkn)
        have htk := getD_take (l := L) [] (show k < L.length by rw [HN.out]; exact hkn)
        have hmem := getD_mem (l := L) [] (show k < L.length by rw [HN.out]; exact hkn)
        obtain ⟨l, hl⟩ : ∃ l, L.getD k [] = l := ⟨_, rfl⟩
        rw [hl] at hcell hlb hrd htk hmem
        have HRD := Lib.hid hrd
        have HTK := Lib.hid (And.intro htk (And.intro hmem hok))
        obtain ⟨m, hlm⟩ : ∃ m, l.length = m := ⟨_, rfl⟩
        rw [hlm] at hcell hlb
        have HM := Lib.hid hlm
        clear hrd htk hmem hok hl hlm
        by_cases h12 : 12 < m
        · have e2 : decide ((m : Int) > 12) = true := decide_eq_true (by omega)
          go_wp2
          go_ret
          exact ⟨false, rfl, ⟨fun h => (by cases h), fun h => by have := (h.2 l HTK.out.2.1).1; rw [HM.out] at this; omega⟩, rfl⟩
        · have e2 : decide ((m : Int) > 12) = false := decide_eq_false (by omega)
          go_wp2_with fail
          go_loopw [21] (fun i wr => ∃ q : Nat, q ≤ m ∧ i = .int .i64 (q : Int) ∧ w = wr ∧ ∀ b ∈ l.take q, b.length ≤ 1000) (fun i _ => m - (intOf i).toNat)
          case atStart => exact ⟨0, Nat.zero_le _, rfl, rfl, by simp⟩
          case round =>
            obtain ⟨q, hq, rfl, rfl, hob⟩ := hrel
            by_cases hqm : q < m
            · have hqi : (q : Int) < (m : Int) := by omega
              obtain ⟨ad2, A2, c2, rfl, _, hcell2, _, hlb2⟩ := HRD.out.at (show q < l.length by rw [HM.out]; exact hqm)
              have htk := getD_take (l := l) [] (show q < l.length by rw [HM.out]; exact hqm)
              have hmem := getD_mem (l := l) [] (show q < l.length by rw [HM.out]; exact hqm)
              obtain ⟨b, hb⟩ : ∃ b, l.getD q [] = b := ⟨_, rfl⟩
              rw [hb] at hcell2 hlb2 htk hmem
              have HTB := Lib.hid (And.intro htk (And.intro hmem hob))
              obtain ⟨z, hz⟩ : ∃ z, b.length = z := ⟨_, rfl⟩
              rw [hz] at hcell2 hlb2
              have HZ := Lib.hid hz
              clear hb hz htk hmem hob
              by_cases h1000 : 1000 < z
              · have e3 : decide ((z : Int) > 1000) = true := decide_eq_true (by omega)
                go_wp2
                go_ret
                exact ⟨false, rfl, ⟨fun h => (by cases h), fun h => by have := (h.2 l HTK.out.2.1).2 b HTB.out.2.1; rw [HZ.out] at this; omega⟩, rfl⟩
              · have e3 : decide ((z : Int) > 1000) = false := decide_eq_false (by omega)
                go_wp2
                go_roundw
                · exact ⟨q + 1, by omega, by go_num, by simp, fun x hx => by
                    rw [HTB.out.1] at hx
                    rcases List.mem_append.1 hx with hx | hx
                    · exact HTB.out.2.2 x hx
                    · rw [List.mem_singleton.1 hx, HZ.out]
                      omega⟩
                · simp [intOf]
                  omega
            · obtain rfl : q = m := by omega
              have HOB : Hid (∀ b ∈ l, b.length ≤ 1000) := Lib.hid (by rw [← HM.out, List.take_length] at hob; exact hob)
              clear hob
              go_wp2
              go_roundw
              · exact ⟨k + 1, by omega, by go_num, by simp, fun x hx => by
                  rw [HTK.out.1] at hx
                  rcases List.mem_append.1 hx with hx | hx
                  · exact HTK.out.2.2 x hx
                  · rw [List.mem_singleton.1 hx]
                    exact ⟨by rw [HM.out]; omega, HOB.out⟩⟩
              · simp [intOf]
                omega
      · obtain rfl : k = n := by omega
        have HOK : Hid (FewL L) := Lib.hid (by rw [← HN.out, List.take_length] at hok; exact ⟨by rw [HN.out]; omega, hok⟩)
        clear hok
        go_wp2
        go_ret
        exact ⟨true, rfl, ⟨fun _ => HOK.out, fun _ => rfl⟩, rfl⟩
set_option maxRecDepth 100000 in
set_option maxHeartbeats 4000000 in
/-- The longest list: as long as any. -/
theorem longest_any (A : Option Addr) (c : Nat) (L : List (List (List UInt8))) (ok : Nat → Prop) (w : World) (hr : RdPP w ok A L) (hm : L.length ≤ 140737488351232) :
    Calls Try.prog 9 #[.slice A L.length c] w fun e w' => ∃ (A' : Option Addr) (q c' : Nat), e = .returned (.slice A' q c') ∧ (∀ l ∈ L, l.length ≤ q) ∧ (q = 0 ∨ ∃ l ∈ L, l.length = q) ∧ w = w' := by
  have HR := Lib.hid hr
  obtain ⟨n, hn⟩ : ∃ n, L.length = n := ⟨_, rfl⟩
  have HN := Lib.hid hn
  rw [hn] at hm ⊢
  clear hr hn
  go_enter Try.func9, Try.ntmps9
  go_wp2_with fail
  go_loopw [3, 8] (fun v i wr => ∃ (k q : Nat) (A' : Option Addr) (c' : Nat), k ≤ n ∧ v = .slice A' q c' ∧ i = .int .i64 (k : Int) ∧ w = wr ∧ q ≤ 140737488351232 ∧ (∀ l ∈ L.take k, l.length ≤ q) ∧ (q = 0 ∨ ∃ l ∈ L, l.length = q)) (fun _ i _ => n - (intOf i).toNat)
  case atStart => exact ⟨0, 0, none, 0, Nat.zero_le _, rfl, rfl, rfl, by omega, by simp, .inl rfl⟩
  case round =>
    obtain ⟨k, q, Aq, cq, hk, rfl, rfl, rfl, hqb, hall, hin⟩ := hrel
    by_cases hkn : k < n
    · have hki : (k : Int) < (n : Int) := by omega
      obtain ⟨ad, A', c', rfl, _, hcell, hlb, hrd⟩ := HR.out k (by rw [HN.out]; exact hkn)
      have htk := getD_take (l := L) [] (show k < L.length by rw [HN.out]; exact hkn)
      have hmem := getD_mem (l := L) [] (show k < L.length by rw [HN.out]; exact hkn)
      obtain ⟨l, hl⟩ : ∃ l, L.getD k [] = l := ⟨_, rfl⟩
      rw [hl] at hcell hlb htk hmem
      obtain ⟨m, hlm⟩ : ∃ m, l.length = m := ⟨_, rfl⟩
      rw [hlm] at hcell hlb
      have HT := Lib.hid (And.intro htk (And.intro hmem (And.intro hall (And.intro hin hlm))))
      clear hrd htk hmem hall hin hl hlm
      by_cases hk0 : k = 0
      · have e0 : ((k : Int) == 0) = true := by rw [beq_iff_eq]; omega
        have HK0 := Lib.hid hk0
        clear hk0
        go_wp2
        go_roundw
        · exact ⟨k + 1, m, A', c', by omega, rfl, by go_num, by simp, hlb, fun x hx => by
            rw [HT.out.1, HK0.out] at hx
            rcases List.mem_append.1 hx with hx | hx
            · simp at hx
            · rw [List.mem_singleton.1 hx, HT.out.2.2.2.2]
              omega, .inr ⟨l, HT.out.2.1, HT.out.2.2.2.2⟩⟩
        · simp [intOf]
          omega
      · have e0 : ((k : Int) == 0) = false := by rw [beq_eq_false_iff_ne]; omega
        by_cases hgt : q < m
        · have e1 : decide ((m : Int) > (q : Int)) = true := decide_eq_true (by omega)
          have e2 : decide (m > q) = true := decide_eq_true hgt
          go_wp2
          go_roundw
          · exact ⟨k + 1, m, A', c', by omega, rfl, by go_num, by simp, hlb, fun x hx => by
              rw [HT.out.1] at hx
              rcases List.mem_append.1 hx with hx | hx
              · have := HT.out.2.2.1 x hx
                omega
              · rw [List.mem_singleton.1 hx, HT.out.2.2.2.2]
                omega, .inr ⟨l, HT.out.2.1, HT.out.2.2.2.2⟩⟩
          · simp [intOf]
            omega
        · have e1 : decide ((m : Int) > (q : Int)) = false := decide_eq_false (by omega)
          have e2 : decide (m > q) = false := decide_eq_false hgt
          go_wp2
          go_roundw
          · exact ⟨k + 1, q, Aq, cq, by omega, rfl, by go_num, by simp, hqb, fun x hx => by
              rw [HT.out.1] at hx
              rcases List.mem_append.1 hx with hx | hx
              · exact HT.out.2.2.1 x hx
              · rw [List.mem_singleton.1 hx, HT.out.2.2.2.2]
                omega, HT.out.2.2.2.1⟩
          · simp [intOf]
            omega
    · obtain rfl : k = n := by omega
      have HA := Lib.hid (show ∀ l ∈ L, l.length ≤ q by rw [← HN.out, List.take_length] at hall; exact hall)
      have HI := Lib.hid hin
      clear hall hin
      go_wp2
      go_ret
      exact ⟨Aq, q, cq, rfl, HA.out, HI.out, rfl⟩
end Go.Proofs.Ytalacjmcllfdhaa
