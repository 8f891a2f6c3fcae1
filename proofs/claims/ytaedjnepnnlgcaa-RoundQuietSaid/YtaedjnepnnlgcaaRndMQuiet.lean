/-
  One's way to agreement, as plain mathematics: who is done does nothing more. Nothing here speaks of the program. No condition.
-/
import Derived.Test.YtaedjnepnnlgcaaRndGood
namespace Go.Proofs.Ytaedjnepnnlgcaa
open Go Go.RowKit Go.Maps

theorem lay_goodS {s : RdS} (h : GoodS s) (k : Nat) (v : Int) {id : List UInt8} (hid : IdOk id) : GoodS (layS s k v id) := by
  unfold layS
  split
  · rename_i hc
    exact ⟨h.ok.lay hid hc.2.1 hc.2.2, h.vts⟩
  · exact h
theorem fresh_goodS {s : RdS} (h : GoodS s) {id : List UInt8} (hid : IdOk id) : GoodS (freshS s id) :=
  ⟨⟨h.ok.voters, h.ok.me, h.ok.height, h.ok.round, h.ok.step, h.ok.early, hid, h.ok.lockR, h.ok.lock, h.ok.bestR, h.ok.best, h.ok.known, h.ok.le, h.ok.offers⟩, h.vts⟩
theorem rem_goodS {s : RdS} (h : GoodS s) {id : List UInt8} (hid : IdOk id) : GoodS (remS s id) := by
  unfold remS
  split
  · rename_i hc
    refine ⟨⟨h.ok.voters, h.ok.me, h.ok.height, h.ok.round, h.ok.step, h.ok.early, h.ok.fresh, h.ok.lockR, h.ok.lock, h.ok.bestR, h.ok.best, ⟨?_, fun x hx => ?_⟩, h.ok.le, h.ok.offers⟩, h.vts⟩
    · show (s.known ++ [id]).length ≤ 32
      rw [List.length_append, List.length_singleton]
      omega
    · rcases List.mem_append.1 hx with hx | hx
      · exact h.ok.known.2 x hx
      · rw [List.mem_singleton] at hx
        rw [hx]
        exact hid
  · exact h
theorem vot_goodS {s : RdS} (h : GoodS s) (r k q : Int) {id : List UInt8} (hid : IdOk id) : GoodS (votS s r k q id) := by
  unfold votS
  split
  · exact ⟨⟨h.ok.voters, h.ok.me, h.ok.height, h.ok.round, h.ok.step, h.ok.early, h.ok.fresh, h.ok.lockR, h.ok.lock, h.ok.bestR, h.ok.best, h.ok.known, h.ok.le, h.ok.offers⟩, put_vts h.vts _ _ _ hid⟩
  · exact h
theorem beg_goodS {s : RdS} (h : GoodS s) {id : List UInt8} (hid : IdOk id) : GoodS (begS s id) := by
  unfold begS
  split
  · exact h
  · rename_i hr
    refine begin_goodS ?_ ?_
    · split
      · exact fresh_goodS h hid
      · exact h
    · split <;> (first | (show s.round < 0; omega) | omega)
theorem offr_goodS {s : RdS} (h : GoodS s) (r v : Int) {id : List UInt8} (hid : IdOk id) : GoodS (offrS s r v id) := by
  unfold offrS
  split
  · exact lay_goodS h _ _ hid
  · exact h
theorem time_goodS {s : RdS} (h : GoodS s) (r t : Int) : GoodS (timeS s r t) := by
  unfold timeS
  split
  · rename_i hc
    have hr := early_round h.ok hc.2
    split
    · exact cast_goodS h _ hr nilId_ok
    split
    · exact cast_goodS h _ hr nilId_ok
    split
    · exact begin_goodS h (by omega)
    · exact h
  · exact h
theorem pre_goodS {s : RdS} (h : GoodS s) (i : InS) (hid : IdOk i.id) : GoodS (preS s i) := by
  unfold preS
  split
  · exact beg_goodS h hid
  split
  · exact rem_goodS h hid
  split
  · exact offr_goodS h _ _ hid
  split
  · exact vot_goodS h _ _ _ hid
  · exact time_goodS h _ _
theorem acts_any {γ : Type} {up : γ → ActS → γ} : ∀ (l : List ActS) (g : γ), Acts up (fun _ _ => True) g l
  | [], _ => trivial
  | _ :: l, _ => ⟨trivial, acts_any l _⟩
theorem settle_over {s : RdS} (h : s.step = 3) : settleS s = s ∧ settleA s = [] := by
  unfold settleS settleA
  rw [settleF_over _ h]
  exact ⟨rfl, rfl⟩
theorem castA_kind {s : RdS} {k : Int} {id : List UInt8} {a : ActS} (h : a ∈ castA s k id) : a = ⟨2, s.round, k, 0, id⟩ ∧ putCode s.voters s.votes s.round k s.me id = 0 := by
  unfold castA at h
  split at h
  · rename_i hc
    rw [List.mem_singleton] at h
    exact ⟨h, hc⟩
  · cases h
theorem timerA_kind {s : RdS} {k t : Nat} {a : ActS} (h : a ∈ timerA s k t) : a = ⟨3, (k : Int), (t : Int), 0, zeroId⟩ ∧ s.timers k t = false := by
  unfold timerA at h
  split at h
  · cases h
  · rename_i hc
    rw [List.mem_singleton] at h
    exact ⟨h, by simpa using hc⟩
theorem beginA_kind {s : RdS} {m : Int} {a : ActS} (h : a ∈ beginA s m) : a.kind = 1 ∨ a.kind = 3 := by
  unfold beginA at h
  split at h
  · split at h
    · rw [(timerA_kind h).1]; exact .inr rfl
    split at h
    · cases h
    split at h
    · rw [(timerA_kind h).1]; exact .inr rfl
    · rw [List.mem_singleton] at h
      rw [h]
      exact .inl rfl
  · cases h
theorem betterA_kind {s : RdS} {id : List UInt8} {a : ActS} (h : a ∈ betterA s id) : a.kind = 2 := by
  unfold betterA at h
  split at h
  · rw [(castA_kind h).1]
  · cases h
def doneB (g : Bool) (a : ActS) : Bool := g || decide (a.kind = 4)
theorem done_keep {l : List ActS} (h : ∀ a ∈ l, a.kind ≠ 4) (g : Bool) : l.foldl doneB g = g := by
  induction l generalizing g with
  | nil => rfl
  | cons a l ih =>
    rw [List.foldl_cons, ih (fun b hb => h b (List.mem_cons_of_mem _ hb))]
    unfold doneB
    rw [decide_eq_false (h a List.mem_cons_self), Bool.or_false]
theorem settle_quiet {s : RdS} (hg : GoodS s) : (settleA s).foldl doneB false = true → (settleS s).step = 3 ∧ 0 ≤ (settleS s).round := by
  refine (settle_keeps (γ := Bool) (up := doneB) (ok := fun _ _ => True) (fun s g => g = true → s.step = 3 ∧ 0 ≤ s.round) ?_ hg (g := false) (fun e => by cases e)).2.2
  intro s l s' g hg hs hst hI
  refine ⟨acts_any _ _, fun hd => ?_⟩
  have hgf : g = false := by
    cases hg' : g with
    | false => rfl
    | true => exact absurd (hI hg').1 hs
  have hno : (∀ a ∈ l, a.kind ≠ 4) → False := fun h => by
    rw [done_keep h, hgf] at hd
    cases hd
  cases hst with
  | done h1 h2 =>
    have h0 := early_round hg.ok hs
    exact ⟨rfl, h0⟩
  | begins h1 => exact (hno fun a ha e => by rcases beginA_kind ha with h | h <;> omega).elim
  | early h1 h2 h3 h4 => exact (hno fun a ha e => by rw [(castA_kind ha).1] at e; cases e).elim
  | better h1 h2 h3 => exact (hno fun a ha e => by have := betterA_kind ha; omega).elim
  | late h1 h2 => exact (hno fun a ha e => by rw [(castA_kind ha).1] at e; cases e).elim
  | timer h1 h2 => exact (hno fun a ha e => by rw [(timerA_kind ha).1] at e; cases e).elim
theorem lay_same (s : RdS) (k : Nat) (v : Int) (id : List UInt8) : (layS s k v id).step = s.step ∧ (layS s k v id).round = s.round := by
  unfold layS
  split <;> exact ⟨rfl, rfl⟩
theorem pre_over {s : RdS} {i : InS} (hs : s.step = 3) (h : 0 ≤ s.round ∨ i.kind ≠ 0) : (preS s i).step = 3 ∧ (preS s i).round = s.round ∧ preA s i = [] := by
  unfold preS preA
  split
  · rename_i h0
    have hr : 0 ≤ s.round := h.resolve_right fun e => e h0
    unfold begS begA
    rw [if_pos hr, if_pos hr]
    exact ⟨hs, rfl, rfl⟩
  split
  · rename_i h1
    rw [if_neg (by omega)]
    unfold remS
    split <;> exact ⟨hs, rfl, rfl⟩
  split
  · rename_i h1
    rw [if_neg (by omega)]
    unfold offrS
    split
    · exact ⟨(lay_same _ _ _ _).1.trans hs, (lay_same _ _ _ _).2, rfl⟩
    · exact ⟨hs, rfl, rfl⟩
  split
  · rename_i h1
    rw [if_neg (by omega)]
    unfold votS
    split <;> exact ⟨hs, rfl, rfl⟩
  · have hn : ¬ (i.round = s.round ∧ s.step ≠ 3) := fun e => e.2 hs
    unfold timeS timeA
    rw [if_neg hn, if_neg hn]
    exact ⟨hs, rfl, by split <;> rfl⟩
theorem give_over {s : RdS} {i : InS} (hs : s.step = 3) (h : 0 ≤ s.round ∨ i.kind ≠ 0) (h6 : i.kind ≠ 6) : (giveS s i).step = 3 ∧ (giveS s i).round = s.round ∧ giveA s i = [] := by
  unfold giveS giveA
  split
  · obtain ⟨h1, h2, h3⟩ := pre_over hs h
    obtain ⟨h4, h5⟩ := settle_over h1
    rw [h4, h5, h3]
    exact ⟨h1, h2, rfl⟩
  split
  · exact ⟨hs, rfl, rfl⟩
  split
  · unfold remS
    split <;> exact ⟨hs, rfl, rfl⟩
  · exact ⟨hs, rfl, rfl⟩
theorem preA_quiet {s : RdS} {i : InS} : ∀ a ∈ preA s i, a.kind ≠ 4 := by
  intro a ha e
  unfold preA at ha
  split at ha
  · unfold begA at ha
    split at ha
    · cases ha
    · rcases beginA_kind ha with h | h <;> omega
  split at ha
  · unfold timeA at ha
    split at ha
    · split at ha
      · rw [(castA_kind ha).1] at e; cases e
      split at ha
      · rw [(castA_kind ha).1] at e; cases e
      split at ha
      · rcases beginA_kind ha with h | h <;> omega
      · cases ha
    · cases ha
  · cases ha
theorem give_quiet {s : RdS} {i : InS} (hg : GoodS s) (hid : IdOk i.id) (h6 : i.kind ≠ 6) {d : Bool} (hd : d = true → s.step = 3 ∧ 0 ≤ s.round) :
    ((d = true ∨ (s.round < 0 ∧ i.kind ≠ 0)) → giveA s i = []) ∧ ((giveA s i).foldl doneB d = true → (giveS s i).step = 3 ∧ 0 ≤ (giveS s i).round) := by
  have hA : (d = true ∨ (s.round < 0 ∧ i.kind ≠ 0)) → giveA s i = [] := by
    rintro (h | ⟨h1, h2⟩)
    · exact (give_over (hd h).1 (.inl (hd h).2) h6).2.2
    · exact (give_over (hg.ok.early (by have := hg.ok.round; omega)) (.inr h2) h6).2.2
  refine ⟨hA, fun h => ?_⟩
  cases hdd : d with
  | true =>
    obtain ⟨h1, h2⟩ := hd hdd
    obtain ⟨h3, h4, _⟩ := give_over (i := i) h1 (.inl h2) h6
    exact ⟨h3, by rw [h4]; exact h2⟩
  | false =>
    rw [hdd] at h
    unfold giveA at h
    split at h
    · rename_i hk
      rw [List.foldl_append, done_keep preA_quiet] at h
      unfold giveS
      rw [if_pos hk]
      exact settle_quiet (pre_goodS hg i hid) h
    · cases h
end Go.Proofs.Ytaedjnepnnlgcaa
