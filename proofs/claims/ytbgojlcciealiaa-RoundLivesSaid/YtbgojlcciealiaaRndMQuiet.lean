/-
  One's way to agreement, as plain mathematics: who is done does nothing more. Nothing here speaks of the program. No condition.
-/
import Derived.Test.YtbgojlcciealiaaRndGood
namespace Go.Proofs.Ytbgojlcciealiaa
open Go Go.RowKit Go.Maps

theorem lay_goodS {s : RdS} (h : GoodS s) (k : Nat) (v : Int) {id : List UInt8} (hid : IdOk id) : GoodS (layS s k v id) := by
  unfold layS
  split
  · rename_i hc
    exact ⟨h.ok.lay hid hc.2.1 hc.2.2, h.vts⟩
  · exact h
theorem fresh_goodS {s : RdS} (h : GoodS s) {id : List UInt8} (hid : IdOk id) : GoodS (freshS s id) :=
  ⟨⟨h.ok.voters, h.ok.me, h.ok.height, h.ok.round, h.ok.step, h.ok.early, hid, h.ok.lockR, h.ok.lock, h.ok.bestR, h.ok.best, h.ok.known, h.ok.le, h.ok.offers⟩, h.vts⟩
theorem vot_goodS {s : RdS} (h : GoodS s) (r k q : Int) {id : List UInt8} (hid : IdOk id) : GoodS (votS s r k q id) := by
  unfold votS
  split
  · exact ⟨⟨h.ok.voters, h.ok.me, h.ok.height, h.ok.round, h.ok.step, h.ok.early, h.ok.fresh, h.ok.lockR, h.ok.lock, h.ok.bestR, h.ok.best, h.ok.known, h.ok.le, h.ok.offers⟩, put_vts h.vts _ _ _ hid⟩
  · exact h
theorem beg_goodS {s : RdS} (h : GoodS s) {id : List UInt8} (hid : IdOk id) : GoodS (begS s id) := by
  unfold begS
  split
  · exact h
  · rename_i hr
    refine begin_goodS ?_ ?_
    · split
      · exact fresh_goodS h hid
      · exact h
    · split <;> (first | (show s.round < 0; omega) | omega)
theorem offr_goodS {s : RdS} (h : GoodS s) (r v : Int) {id : List UInt8} (hid : IdOk id) : GoodS (offrS s r v id) := by
  unfold offrS
  split
  · exact lay_goodS h _ _ hid
  · exact h
theorem acts_any {γ : Type} {up : γ → ActS → γ} : ∀ (l : List ActS) (g : γ), Acts up (fun _ _ => True) g l
  | [], _ => trivial
  | _ :: l, _ => ⟨trivial, acts_any l _⟩
theorem settle_goodS {s : RdS} (h : GoodS s) : GoodS (settleS s) := (settle_keeps (γ := Unit) (up := fun g _ => g) (ok := fun _ _ => True) (fun _ _ => True) (fun _ l _ g _ _ _ _ => ⟨acts_any l g, trivial⟩) h (g := ()) trivial).1
theorem timerA_kind {s : RdS} {k t : Nat} {a : ActS} (h : a ∈ timerA s k t) : a = ⟨3, (k : Int), (t : Int), 0, zeroId⟩ ∧ s.timers k t = false := by
  unfold timerA at h
  split at h
  · cases h
  · rename_i hc
    rw [List.mem_singleton] at h
    exact ⟨h, by simpa using hc⟩
end Go.Proofs.Ytbgojlcciealiaa
