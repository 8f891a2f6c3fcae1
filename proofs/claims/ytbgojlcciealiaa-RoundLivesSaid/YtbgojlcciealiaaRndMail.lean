/-
  Mails in memory: a mail's cells, rows of mails, that grow (after acts). No condition.
-/
import Derived.Test.YtbgojlcciealiaaRndSet
namespace Go.Proofs.Ytbgojlcciealiaa
open Go Go.RowKit Go.Maps

/-- An act that is on its way from one to another. -/
structure MailS where
  src : Int
  dst : Int
  act : ActS
def mailC (v : MailS) : List Value := .int .i64 v.src :: .int .i64 v.dst :: actC v.act
def mailA (v : MailS) : Array Value := (mailC v).toArray
structure MailOk (v : MailS) : Prop where
  src : wfi v.src
  dst : wfi v.dst
  act : ActOk v.act
theorem mailA_size {v : MailS} (h : MailOk v) : (mailA v).size = 38 := by
  have := h.act.id
  unfold IdOk at this
  simp [mailA, mailC, actC, this]
theorem mailC_length {v : MailS} (h : MailOk v) : (mailC v).length = 38 := by
  have := h.act.id
  unfold IdOk at this
  simp [mailC, actC, this]
theorem mailA_one (v : MailS) : (mailA v).all (·.oneCell') = true := by
  unfold mailA mailC actC
  rw [Array.all_eq_true_iff_forall_mem]
  intro x hx
  simp only [List.mem_toArray, List.mem_cons, List.mem_map] at hx
  rcases hx with rfl | rfl | rfl | rfl | rfl | rfl | ⟨b, _, rfl⟩ <;> rfl
theorem mail_info : (Try.prog.info? 85).map (·.size) = some 38 := by kernel_rfl
/-- A slice of mails that reads as l, its cells in blocks below B. -/
def RdMl (W : World) (B : Nat) (v : Value) (l : List MailS) : Prop :=
  (∀ x ∈ l, MailOk x) ∧ ∃ A c, v = .slice A l.length c ∧ l.length ≤ c ∧ l.length ≤ 1759218604441 ∧ (0 < l.length → ∃ ad : Addr, A = some ad ∧ ad.block < B ∧ ∀ k x, l[k]? = some x → ∀ i, i < 38 → W.cell? (ad.add (38 * k + i)) = (mailC x)[i]?)
theorem run_load_mail (w : World) (ad : Addr) (v : MailS) (hv : MailOk v) (h : ∀ i, i < 38 → w.cell? (ad.add i) = (mailC v)[i]?) : (Instr.loadAt 85 (.pointer (some ad))).run Try.prog w = .ok (.agg (mailA v)) w := by
  have hl := run_loadCells_list (P := Try.prog) w ad (mailC v) (fun j x hx => by
    have hj : j < 38 := by
      have := (List.getElem?_eq_some_iff.1 hx).1
      rw [mailC_length hv] at this
      exact this
    rw [h j hj, hx])
  rw [mailC_length hv] at hl
  cases hq : Try.prog.info? 85 with
  | none => have := mail_info; simp [hq] at this
  | some i =>
    have hs : i.size = 38 := by have := mail_info; simpa [hq] using this
    have hagg : (isAgg 85).run Try.prog w = .ok true w := by
      unfold isAgg
      rw [Sem.run_bind, run_underlying Try.underlying85 w]
      rfl
    simp [Instr.loadAt, Instr.sureAddr, loadVar, Sem.run_bind, hagg, sizeOf, typeInfo, hq, hs, hl, mailA]
theorem RdMl.here {W : World} {B : Nat} {v : Value} {l : List MailS} (h : RdMl W B v l) {k : Nat} {x : MailS} (hk : l[k]? = some x) : ∃ ad c, v = .slice (some ad) l.length c ∧ MailOk x ∧ ad.block < B ∧ ∀ W', Below B W W' → (Instr.loadAt 85 (.pointer (some (ad.add (k * 38))))).run Try.prog W' = .ok (.agg (mailA x)) W' := by
  have hlt := (List.getElem?_eq_some_iff.1 hk).1
  have h' := h
  obtain ⟨h0, A, c, rfl, h2, h3, h4⟩ := h
  obtain ⟨ad, rfl, q2, q3⟩ := h4 (by omega)
  have hv : MailOk x := h0 _ (List.mem_of_getElem? hk)
  refine ⟨ad, c, rfl, hv, q2, fun W' hb => run_load_mail W' _ _ hv fun i hi => ?_⟩
  rw [add_add', Nat.mul_comm k 38]
  have h5 := q3 k x hk i hi
  have hx := mailC_length hv
  rw [List.getElem?_eq_getElem (by omega)] at h5 ⊢
  exact (hb.cell (p := ad.add (38 * k + i)) (by rw [block_add]; exact q2)).trans h5
def mailsC (l : List MailS) : List Value := l.flatMap mailC
theorem mailsC_append (a b : List MailS) : mailsC (a ++ b) = mailsC a ++ mailsC b := by simp [mailsC]
theorem mailsC_length {l : List MailS} (h : ∀ x ∈ l, MailOk x) : (mailsC l).length = l.length * 38 := by
  induction l with
  | nil => rfl
  | cons v l ih =>
    rw [mailsC, List.flatMap_cons, List.length_append, mailC_length (h v (List.mem_cons_self ..)), ← mailsC, ih fun x hx => h x (List.mem_cons_of_mem _ hx), List.length_cons]
    omega
theorem mailsC_get {l : List MailS} (h : ∀ x ∈ l, MailOk x) {k : Nat} {x : MailS} (hk : l[k]? = some x) {i : Nat} (hi : i < 38) : (mailsC l)[38 * k + i]? = (mailC x)[i]? := by
  induction l generalizing k with
  | nil => simp at hk
  | cons v l ih =>
    have hv := mailC_length (h v (List.mem_cons_self ..))
    rw [mailsC, List.flatMap_cons, ← mailsC]
    cases k with
    | zero =>
      rw [List.getElem?_cons_zero, Option.some.injEq] at hk
      subst hk
      rw [Nat.mul_zero, Nat.zero_add, List.getElem?_append_left (by omega)]
    | succ k =>
      rw [List.getElem?_cons_succ] at hk
      rw [List.getElem?_append_right (by omega), hv, show 38 * (k + 1) + i - 38 = 38 * k + i from by omega]
      exact ih (fun x hx => h x (List.mem_cons_of_mem _ hx)) hk
theorem mailsC_one (l : List MailS) : ∀ u ∈ mailsC l, u.oneCell' = true := fun u hu => by
  unfold mailsC at hu
  rw [List.mem_flatMap] at hu
  obtain ⟨v, _, hu⟩ := hu
  have h := mailA_one v
  rw [Array.all_eq_true_iff_forall_mem] at h
  exact h u (by unfold mailA; simpa using hu)
theorem info_mail : (Try.prog.info? 85).map (fun i => (i.zero, i.size, i.bytes)) = some (some (.agg (mailA ⟨0, 0, ⟨0, 0, 0, 0, zeroId⟩⟩)), 38, 80) := by kernel_rfl
theorem zeroMail_ok : MailOk ⟨0, 0, ⟨0, 0, 0, 0, zeroId⟩⟩ := ⟨wfi_small (by decide) (by decide), wfi_small (by decide) (by decide), zeroAct_ok⟩
set_option maxRecDepth 100000 in
/-- An append of a slice of mails onto a row of the call's own. -/
theorem app_mails {B B' : Nat} {w : World} (hB : B ≤ w.heap.size) {v : Value} {n : Nat} {xs : List Value} (hown : w.ownsRow B 85 38 v n xs) {A : Option Addr} {m c : Nat} {l : List MailS} (hr : RdMl w B' (.slice A m c) l) (hn : n + m ≤ 1759218604441) :
    ∃ v' w', (Builtin.append_ #[80, 80] 80 #[v, .slice A m c]).run Try.prog w = .ok v' w' ∧
      w'.ownsRow B 85 38 v' (n + m) (xs ++ mailsC l) ∧ w.grownBy w' v.ownBlock ∧ (v'.ownBlock = v.ownBlock ∨ v'.ownBlock = some w.heap.size) := by
  obtain ⟨i, hi, hz, hsize, hby⟩ := info_parts info_mail
  have ht := Try.underlying80
  obtain ⟨hok, A', c', hv, h1, h2, h3⟩ := hr
  obtain ⟨rfl, rfl, rfl⟩ := Value.slice.inj hv
  rcases A with _ | ad
  · have hm : l.length = 0 := by
      rcases Nat.eq_zero_or_pos l.length with h0 | h0
      · exact h0
      · obtain ⟨ad, h, _⟩ := h3 h0
        cases h
    have hn : l = [] := List.eq_nil_of_length_eq_zero hm
    subst hn
    refine ⟨v, w, ?_, by simpa [mailsC] using hown, World.grownBy.refl w _, .inl rfl⟩
    rcases hown.2 with ⟨rfl, rfl⟩ | ⟨g, cap, cur, rfl, _, _, hnc, _⟩
    · simp [Builtin.append_, run_underlying ht, sizeOf, typeInfo, hi, Builtin.lenOf, Builtin.firstCells]
    · simp [Builtin.append_, run_underlying ht, sizeOf, typeInfo, hi, Builtin.lenOf, Builtin.firstCells, hnc, storeCells]
  · obtain ⟨v', w', hrun, q2, q3, _, q5⟩ := run_append_own_at (P := Try.prog) w B 80 80 85 i _ 38 80 ht hi hz hsize hby (mailA_size zeroMail_ok) (by omega) v n xs hown ad l.length c (mailsC l) (mailsC_length hok)
      (fun j x hx => by
        have hj : j < l.length * 38 := by
          have := (List.getElem?_eq_some_iff.1 hx).1
          rw [mailsC_length hok] at this
          exact this
        obtain ⟨ad', hA, _, hc⟩ := h3 (by omega)
        injection hA with hA
        subst hA
        have hk : j / 38 < l.length := by omega
        have hd : 38 * (j / 38) + j % 38 = j := by omega
        have hg := mailsC_get hok (List.getElem?_eq_getElem hk) (i := j % 38) (by omega)
        have hq := hc (j / 38) _ (List.getElem?_eq_getElem hk) (j % 38) (by omega)
        rw [hd] at hg hq
        rw [hq, ← hg, hx]) (mailsC_one l) (by unfold maxLen; omega) (by omega) hB
    exact ⟨v', w', hrun, q2, q3, q5⟩
/-- A row of mails of the call's own reads as these mails. -/
theorem rdMl_own {w : World} {base n : Nat} {v : Value} {l : List MailS} (h : w.ownsRow base 85 38 v n (mailsC l)) (hok : ∀ x ∈ l, MailOk x) (hn : l.length = n) (hm : n ≤ 1759218604441) : RdMl w w.heap.size v l := by
  subst hn
  rcases h.2 with ⟨rfl, h0⟩ | ⟨g, cap, cur, rfl, hb, hg, hcap, _⟩
  · exact ⟨hok, none, 0, by rw [h0], by omega, hm, fun h => by omega⟩
  · have hlt : g < w.heap.size := by
      rcases Nat.lt_or_ge g w.heap.size with h' | h'
      · exact h'
      · rw [Array.getElem?_eq_none h'] at hg; cases hg
    refine ⟨hok, _, cap, rfl, hcap, hm, fun _ => ⟨_, rfl, hlt, fun k x hk i hi => ?_⟩⟩
    have hg := mailsC_get hok hk hi
    have hx := mailC_length (hok x (List.mem_of_getElem? hk))
    have hxi : (mailC x)[i]? = some _ := List.getElem?_eq_getElem (l := mailC x) (i := i) (by omega)
    rw [hxi] at hg ⊢
    exact h.cells (g := g) rfl _ _ hg
set_option maxRecDepth 100000 in
theorem mail_fill (p q a b c d : Int) (f : Nat → UInt8) : Try.prog.builtSlice 85 1 [(0, .agg (mailA ⟨p, q, ⟨a, b, c, d, (List.range 32).map f⟩⟩))] = some (mailA ⟨p, q, ⟨a, b, c, d, (List.range 32).map f⟩⟩) := by kernel_rfl
set_option maxRecDepth 100000 in
theorem mail_fillA (p q a b c d : Int) (f : Nat → UInt8) : Try.prog.built 85 [(0, .int .i64 p), (1, .int .i64 q), (2, .agg (actA ⟨a, b, c, d, (List.range 32).map f⟩))] = some (mailA ⟨p, q, ⟨a, b, c, d, (List.range 32).map f⟩⟩) := by kernel_rfl
theorem mail_built (v : MailS) (h : MailOk v) : Try.prog.builtSlice 85 1 [(0, .agg (mailA v))] = some (mailA v) := by
  obtain ⟨p, q, a, b, c, d, id⟩ := v
  have hid : IdOk id := h.act.id
  rw [id_range hid]
  exact mail_fill p q a b c d _
theorem mail_builtA (p q : Int) (x : ActS) (h : ActOk x) : Try.prog.built 85 [(0, .int .i64 p), (1, .int .i64 q), (2, .agg (actA x))] = some (mailA ⟨p, q, x⟩) := by
  obtain ⟨a, b, c, d, id⟩ := x
  have hid : IdOk id := h.id
  rw [id_range hid]
  exact mail_fillA p q a b c d _
theorem rdMl_new (w : World) (x : MailS) (hx : MailOk x) : RdMl (w.alloc (.cells (mailA x) 85)) (w.heap.size + 1) (.slice (some ⟨w.heap.size, 0, none⟩) 1 1) [x] := by
  refine ⟨fun y hy => by rw [List.mem_singleton] at hy; rw [hy]; exact hx, _, 1, rfl, Nat.le_refl _, by simp, fun _ => ⟨_, rfl, Nat.lt_succ_self _, fun k y hk i hi => ?_⟩⟩
  have hk0 : k = 0 ∧ y = x := by
    cases k with
    | zero => simpa [eq_comm] using hk
    | succ k => simp at hk
  obtain ⟨rfl, rfl⟩ := hk0
  have e : (⟨w.heap.size, 0, none⟩ : Addr).add (38 * 0 + i) = ⟨w.heap.size, i, none⟩ := by unfold Addr.add; split <;> simp_all
  rw [e, (Blk.new w _ (mailA y)).cell]
  unfold mailA
  rw [List.getElem?_toArray]
end Go.Proofs.Ytbgojlcciealiaa
