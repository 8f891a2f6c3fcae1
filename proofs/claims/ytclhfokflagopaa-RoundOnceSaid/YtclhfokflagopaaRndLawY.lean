/-
  Layer 14's laws: what they share further. No condition.
-/
import Derived.Test.YtclhfokflagopaaRndLawX
import Derived.Test.YtclhfokflagopaaRndKeys
namespace Go.Proofs.Ytclhfokflagopaa
open Go Go.RowKit Go.Maps

theorem LawX.adds {w : World} {B C M j : Nat} {s : RdS} {X : List Nat} {wr w' : World} (h : LawX w B C M j s X wr) (hb : Below wr.heap.size wr w') (Y : List Nat) (hY : ∀ g ∈ Y, wr.heap.size ≤ g ∧ g < w'.heap.size) : LawX w B C M j s (Y ++ X) w' := by
  obtain ⟨n, kv, k1, k2, k3, k4, k5⟩ := h
  refine ⟨n, kv, k1.below hb, k2, k3.trans (hb.mono k3.size), k4, fun x hx => ?_⟩
  rcases List.mem_append.1 hx with hx | hx
  · have q1 := k1.lt
    have q2 := k1.cnt.ltB
    have q3 := k1.cnt.ltM
    obtain ⟨h1, h2⟩ := hY x hx
    exact ⟨h2, Nat.le_trans k3.size h1, by omega, by omega, by omega, fun e => by have := (k1.own.lt x e).2; omega⟩
  · exact ⟨Nat.lt_of_lt_of_le (k5 x hx).1 hb.size, (k5 x hx).2⟩
theorem act_num {W : World} {g t : Nat} {v : ActS} (h : Blk W g t (actA v)) : W.cell? ⟨g, 2, none⟩ = some (.int .i64 v.num) := by rw [h.cell]; rfl
theorem act_round {W : World} {g t : Nat} {v : ActS} (h : Blk W g t (actA v)) : W.cell? ⟨g, 1, none⟩ = some (.int .i64 v.round) := by rw [h.cell]; rfl
theorem act_id {W : World} {g t : Nat} {v : ActS} (h : Blk W g t (actA v)) (hv : ActOk v) : (Instr.loadAt 24 (.pointer (some ⟨g, 4, none⟩))).run Try.prog W = .ok (idv v.id) W :=
  run_load_id W _ _ hv.id fun j hj => by
    rw [show (⟨g, 4, none⟩ : Addr).add j = ⟨g, 4 + j, none⟩ by simp [Addr.add], h.cell]
    have hid := hv.id
    unfold IdOk at hid
    unfold actA actC
    rw [List.getElem?_toArray, show 4 + j = j + 1 + 1 + 1 + 1 by omega, List.getElem?_cons_succ, List.getElem?_cons_succ, List.getElem?_cons_succ, List.getElem?_cons_succ, List.getElem?_map, List.getElem?_eq_getElem (by omega), List.getD_eq_getElem?_getD, List.getElem?_eq_getElem (by omega)]
    rfl
theorem OwnA.sliceN {b nl : Nat} {w : World} {v : Value} {l : List ActS} (h : OwnA b w v l) (hn : l.length = nl) : ∃ A c, v = .slice A nl c := by
  obtain ⟨_, Aq, c, h1, _⟩ := h.rd
  exact ⟨Aq, c, by rw [h1, hn]⟩
theorem bool_zero' (w : World) : (zeroValue 4).run Try.prog w = .ok (.bool false) w := by kernel_rfl
/-- A map of what was seen, by three numbers. -/
def SeenT (W : World) (b n : Nat) (S : Int → Int → Int → Bool) : Prop := ∃ T, MapV Try.prog 53 W b n T ∧ ∀ x y z, T (keyV x y z) = if S x y z = true then some (.bool true) else none
/-- A map of what is known, by IDs. -/
def KnownT (W : World) (b n : Nat) (S : List UInt8 → Bool) : Prop := ∃ T, MapV Try.prog 24 W b n T ∧ ∀ l, IdOk l → T (idv l) = if S l = true then some (.bool true) else none
theorem SeenT.lt {W : World} {b n : Nat} {S : Int → Int → Int → Bool} (h : SeenT W b n S) : b < W.heap.size := by obtain ⟨T, h, _⟩ := h; exact h.lt
theorem KnownT.lt {W : World} {b n : Nat} {S : List UInt8 → Bool} (h : KnownT W b n S) : b < W.heap.size := by obtain ⟨T, h, _⟩ := h; exact h.lt
theorem SeenT.same {W W' : World} {b n : Nat} {S : Int → Int → Int → Bool} (h : SeenT W b n S) (hb : W'.heap[b]? = W.heap[b]?) : SeenT W' b n S := by obtain ⟨T, h, k⟩ := h; exact ⟨T, h.same hb, k⟩
theorem KnownT.same {W W' : World} {b n : Nat} {S : List UInt8 → Bool} (h : KnownT W b n S) (hb : W'.heap[b]? = W.heap[b]?) : KnownT W' b n S := by obtain ⟨T, h, k⟩ := h; exact ⟨T, h.same hb, k⟩
theorem SeenT.mono {W : World} {b n m : Nat} {S : Int → Int → Int → Bool} (h : SeenT W b n S) (hm : n ≤ m) : SeenT W b m S := by obtain ⟨T, h, k⟩ := h; exact ⟨T, h.mono hm, k⟩
theorem KnownT.mono {W : World} {b n m : Nat} {S : List UInt8 → Bool} (h : KnownT W b n S) (hm : n ≤ m) : KnownT W b m S := by obtain ⟨T, h, k⟩ := h; exact ⟨T, h.mono hm, k⟩
theorem SeenT.put {W' : World} {b n : Nat} {S : Int → Int → Int → Bool} {T : Value → Option Value} (hk : ∀ x y z, T (keyV x y z) = if S x y z = true then some (.bool true) else none) {x y z : Int} (h : MapV Try.prog 53 W' b (n + 1) (putV T (keyV x y z) (.bool true))) : SeenT W' b (n + 1) (fun x' y' z' => S x' y' z' || (decide (x' = x) && decide (y' = y) && decide (z' = z))) := by
  refine ⟨_, h, fun x' y' z' => ?_⟩
  by_cases he : x' = x ∧ y' = y ∧ z' = z
  · obtain ⟨rfl, rfl, rfl⟩ := he
    rw [putV_same]
    simp
  · rw [putV_other (keyV_ne he), hk]
    have : (decide (x' = x) && decide (y' = y) && decide (z' = z)) = false := by
      rw [← Bool.not_eq_true]
      intro h
      simp only [Bool.and_eq_true, decide_eq_true_eq] at h
      exact he ⟨h.1.1, h.1.2, h.2⟩
    simp only [this, Bool.or_false]
theorem KnownT.put {W' : World} {b n : Nat} {S : List UInt8 → Bool} {T : Value → Option Value} (hk : ∀ l, IdOk l → T (idv l) = if S l = true then some (.bool true) else none) {id : List UInt8} (h : MapV Try.prog 24 W' b (n + 1) (putV T (idv id) (.bool true))) : KnownT W' b (n + 1) (fun x => S x || (x == id)) := by
  refine ⟨_, h, fun l hl => ?_⟩
  by_cases he : l = id
  · subst he
    rw [putV_same]
    simp
  · rw [putV_other (fun e => he (idv_inj e)), hk l hl]
    have : (l == id) = false := by rw [beq_eq_false_iff_ne]; exact he
    simp only [this, Bool.or_false]
theorem seenT_made (w : World) : SeenT (w.alloc (.map #[] 0)) w.heap.size 0 (fun _ _ _ => false) := ⟨_, mapV_made _ _ _, fun _ _ _ => rfl⟩
theorem knownT_made (w : World) : KnownT (w.alloc (.map #[] 0)) w.heap.size 0 (fun _ => false) := ⟨_, mapV_made _ _ _, fun _ _ => rfl⟩
end Go.Proofs.Ytclhfokflagopaa
