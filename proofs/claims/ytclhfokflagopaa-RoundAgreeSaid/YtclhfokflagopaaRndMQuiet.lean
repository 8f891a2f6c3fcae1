/-
  One's way to agreement, as plain mathematics: who is done does nothing more. Nothing here speaks of the program. No condition.
-/
import Derived.Test.YtclhfokflagopaaRndGood
namespace Go.Proofs.Ytclhfokflagopaa
open Go Go.RowKit Go.Maps

theorem lay_goodS {s : RdS} (h : GoodS s) (k : Nat) (v : Int) {id : List UInt8} (hid : IdOk id) : GoodS (layS s k v id) := by
  unfold layS
  split
  · rename_i hc
    exact ⟨h.ok.lay hid hc.2.1 hc.2.2, h.vts⟩
  · exact h
theorem fresh_goodS {s : RdS} (h : GoodS s) {id : List UInt8} (hid : IdOk id) : GoodS (freshS s id) :=
  ⟨⟨h.ok.voters, h.ok.me, h.ok.height, h.ok.round, h.ok.step, h.ok.early, hid, h.ok.lockR, h.ok.lock, h.ok.bestR, h.ok.best, h.ok.known, h.ok.le, h.ok.offers⟩, h.vts⟩
theorem rem_goodS {s : RdS} (h : GoodS s) {id : List UInt8} (hid : IdOk id) : GoodS (remS s id) := by
  unfold remS
  split
  · rename_i hc
    refine ⟨⟨h.ok.voters, h.ok.me, h.ok.height, h.ok.round, h.ok.step, h.ok.early, h.ok.fresh, h.ok.lockR, h.ok.lock, h.ok.bestR, h.ok.best, ⟨?_, fun x hx => ?_⟩, h.ok.le, h.ok.offers⟩, h.vts⟩
    · show (s.known ++ [id]).length ≤ 32
      rw [List.length_append, List.length_singleton]
      omega
    · rcases List.mem_append.1 hx with hx | hx
      · exact h.ok.known.2 x hx
      · rw [List.mem_singleton] at hx
        rw [hx]
        exact hid
  · exact h
theorem vot_goodS {s : RdS} (h : GoodS s) (r k q : Int) {id : List UInt8} (hid : IdOk id) : GoodS (votS s r k q id) := by
  unfold votS
  split
  · exact ⟨⟨h.ok.voters, h.ok.me, h.ok.height, h.ok.round, h.ok.step, h.ok.early, h.ok.fresh, h.ok.lockR, h.ok.lock, h.ok.bestR, h.ok.best, h.ok.known, h.ok.le, h.ok.offers⟩, put_vts h.vts _ _ _ hid⟩
  · exact h
theorem beg_goodS {s : RdS} (h : GoodS s) {id : List UInt8} (hid : IdOk id) : GoodS (begS s id) := by
  unfold begS
  split
  · exact h
  · rename_i hr
    refine begin_goodS ?_ ?_
    · split
      · exact fresh_goodS h hid
      · exact h
    · split <;> (first | (show s.round < 0; omega) | omega)
theorem offr_goodS {s : RdS} (h : GoodS s) (r v : Int) {id : List UInt8} (hid : IdOk id) : GoodS (offrS s r v id) := by
  unfold offrS
  split
  · exact lay_goodS h _ _ hid
  · exact h
theorem time_goodS {s : RdS} (h : GoodS s) (r t : Int) : GoodS (timeS s r t) := by
  unfold timeS
  split
  · rename_i hc
    have hr := early_round h.ok hc.2
    split
    · exact cast_goodS h _ hr nilId_ok
    split
    · exact cast_goodS h _ hr nilId_ok
    split
    · exact begin_goodS h (by omega)
    · exact h
  · exact h
theorem pre_goodS {s : RdS} (h : GoodS s) (i : InS) (hid : IdOk i.id) : GoodS (preS s i) := by
  unfold preS
  split
  · exact beg_goodS h hid
  split
  · exact rem_goodS h hid
  split
  · exact offr_goodS h _ _ hid
  split
  · exact vot_goodS h _ _ _ hid
  · exact time_goodS h _ _
theorem acts_any {γ : Type} {up : γ → ActS → γ} : ∀ (l : List ActS) (g : γ), Acts up (fun _ _ => True) g l
  | [], _ => trivial
  | _ :: l, _ => ⟨trivial, acts_any l _⟩
theorem settle_over {s : RdS} (h : s.step = 3) : settleS s = s ∧ settleA s = [] := by
  unfold settleS settleA
  rw [settleF_over _ h]
  exact ⟨rfl, rfl⟩
theorem timerA_kind {s : RdS} {k t : Nat} {a : ActS} (h : a ∈ timerA s k t) : a = ⟨3, (k : Int), (t : Int), 0, zeroId⟩ ∧ s.timers k t = false := by
  unfold timerA at h
  split at h
  · cases h
  · rename_i hc
    rw [List.mem_singleton] at h
    exact ⟨h, by simpa using hc⟩
theorem beginA_kind {s : RdS} {m : Int} {a : ActS} (h : a ∈ beginA s m) : a.kind = 1 ∨ a.kind = 3 := by
  unfold beginA at h
  split at h
  · split at h
    · rw [(timerA_kind h).1]; exact .inr rfl
    split at h
    · cases h
    split at h
    · rw [(timerA_kind h).1]; exact .inr rfl
    · rw [List.mem_singleton] at h
      rw [h]
      exact .inl rfl
  · cases h
end Go.Proofs.Ytclhfokflagopaa
