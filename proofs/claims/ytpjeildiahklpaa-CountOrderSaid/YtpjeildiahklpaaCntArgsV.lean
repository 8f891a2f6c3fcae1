/-
  Votes as arguments, opened: a vote, slices of votes. No condition.
-/
import Derived.Test.YtpjeildiahklpaaCntArgsI
import Derived.Test.YtpjeildiahklpaaCntVote
namespace Go.Proofs.Ytpjeildiahklpaa
open Go Go.RowKit Go.ChangeShapes Go.WideShapes Go.ChangeAt

theorem cellsInt' : Try.prog.cellsOf 3 = 1 := by kernel_rfl
theorem cellsVote : Try.prog.cellsOf 26 = 35 := by kernel_rfl
theorem bytesVote : Try.prog.bytesOf 26 = 56 := by kernel_rfl
section
variable {H : Type} {enc : TypeId × Value → H}
theorem open_i64' {W : World} {fuel : Nat} {cs : List Value} {x : DataW H × List MemPlace} (h : DataW.trod enc Try.prog W 0 (fun _ => true) true fuel 3 cs = some x) : ∃ n : Int, cs = [.int .i64 n] ∧ (Lit.int .i64 n).wf = true := by
  obtain ⟨n, hn, _, hw⟩ := DataW.trod_int Try.underlying3 h
  exact ⟨n, hn, hw⟩
set_option maxRecDepth 100000 in
theorem open_voteC {W : World} {fuel : Nat} {cs : List Value} {x : DataW H × List MemPlace} (hsz : cs.length = 35) (hf : DataW.trod enc Try.prog W 0 (fun _ => true) true fuel 26 cs = some x) :
    ∃ v : VoteT, VoteOk v ∧ cs = voteC v := by
  obtain ⟨xs, n, _, hx, _, hlen, hg⟩ := DataW.trod_struct Try.underlying26 hf
  have hxl : xs.length = 4 := hlen
  have get : ∀ j, j < 4 → ∃ y, xs[j]? = some y := fun j hj => ⟨_, List.getElem?_eq_getElem (by omega)⟩
  have one : ∀ (o : Nat) (x : Value), (cs.drop o).take 1 = [x] → cs[o]? = some x := fun o x hx => by
    have h3 := congrArg (fun l : List Value => l[0]?) hx
    simp only [List.getElem?_take, List.getElem?_drop, Nat.zero_lt_one, if_true, Nat.add_zero] at h3
    exact h3
  obtain ⟨y0, g0⟩ := get 0 (by omega)
  obtain ⟨y1, g1⟩ := get 1 (by omega)
  obtain ⟨y2, g2⟩ := get 2 (by omega)
  obtain ⟨y3, g3⟩ := get 3 (by omega)
  have f0 : DataW.trod enc Try.prog W 0 (fun _ => true) true n 3 ((cs.drop 0).take (Try.prog.cellsOf 3)) = some y0 := (hg 0 _ rfl).trans g0
  rw [cellsInt'] at f0
  have f1 : DataW.trod enc Try.prog W 0 (fun _ => true) true n 3 ((cs.drop 1).take (Try.prog.cellsOf 3)) = some y1 := (hg 1 _ rfl).trans g1
  rw [cellsInt'] at f1
  have f2 : DataW.trod enc Try.prog W 0 (fun _ => true) true n 3 ((cs.drop 2).take (Try.prog.cellsOf 3)) = some y2 := (hg 2 _ rfl).trans g2
  rw [cellsInt'] at f2
  have f3 : DataW.trod enc Try.prog W 0 (fun _ => true) true n 24 ((cs.drop 3).take (Try.prog.cellsOf 24)) = some y3 := (hg 3 _ rfl).trans g3
  rw [cellsId] at f3
  obtain ⟨n0, e0, w0⟩ := open_i64' f0
  obtain ⟨n1, e1, w1⟩ := open_i64' f1
  obtain ⟨n2, e2, w2⟩ := open_i64' f2
  obtain ⟨l, hl, _, hfy⟩ := open_idl f3
  have hok : VoteOk ⟨n0, n1, n2, l⟩ := ⟨hl, w0, w1, w2⟩
  refine ⟨⟨n0, n1, n2, l⟩, hok, List.ext_getElem? fun i => ?_⟩
  by_cases hi : i < 35
  · have c0 := one 0 _ e0
    have c1 := one 1 _ e1
    have c2 := one 2 _ e2
    by_cases h3 : i < 3
    · have : i = 0 ∨ i = 1 ∨ i = 2 := by omega
      rcases this with rfl | rfl | rfl
      · exact c0
      · exact c1
      · exact c2
    · have := hfy (i - 3) (by omega)
      rw [List.getElem?_take, if_pos (by omega), List.getElem?_drop, show 3 + (i - 3) = i from by omega] at this
      rw [this]
      have h4 := voteC_id hok (i := i - 3) (by omega)
      rw [show 3 + (i - 3) = i from by omega] at h4
      exact h4.symm
  · rw [List.getElem?_eq_none (by omega), List.getElem?_eq_none (by rw [voteC_length hok]; omega)]
set_option maxRecDepth 100000 in
theorem open_vote {W : World} {b0 : Nat} {v : Value} {d : DataW H} {p : List MemPlace} (hv : Value.okWide Try.prog W .any b0 26 v) (h : DataW.Trod enc Try.prog W 0 (fun _ => true) true 26 v d p) :
    ∃ x : VoteT, v = .agg (voteA x) ∧ VoteOk x := by
  obtain ⟨cs, rfl, hsz⟩ := okWide_struct Try.underlying26 hv
  rw [cellsVote] at hsz
  obtain ⟨fuel, hf⟩ := h
  obtain ⟨x, hx, hc⟩ := open_voteC (cs := cs.toList) (by simpa using hsz) hf
  refine ⟨x, ?_, hx⟩
  unfold voteA
  rw [← hc, Array.toArray_toList]
set_option maxRecDepth 100000 in
/-- []Vote. -/
theorem open_votes {W : World} {fuel : Nat} {cs : List Value} {d : DataW H} {p : List MemPlace} (hl : Light 22 d) (h : DataW.trod enc Try.prog W 0 (fun _ => true) true fuel 22 cs = some (d, p)) :
    ∃ (v : Value) (l : List VoteT), cs = [v] ∧ RdW W W.heap.size v l := by
  rcases Go.Deep.open_slice Try.underlying22 h with ⟨rfl, hx⟩ | ⟨a, len, cap, m, n, D0, Pl, rfl, _, hle, hm, hmm, hx, hi⟩
  · exact ⟨_, [], rfl, by simp, none, 0, rfl, Nat.le_refl _, by simp, fun h => by simp at h⟩
  · simp only [Prod.mk.injEq] at hx
    obtain ⟨rfl, rfl⟩ := hx
    simp only [if_true] at hmm
    subst hmm
    have hs := light_len Try.underlying22 hl
    rw [bytesVote] at hs
    simp only [List.length_map, List.length_range] at hs
    have each : ∀ k, k < len → ∃ x : VoteT, VoteOk x ∧ ∀ i, i < 35 → W.cell? (a.add (35 * k + i)) = (voteC x)[i]? := fun k hk => by
      obtain ⟨cs', hc, ht⟩ := hi k (by omega)
      rw [cellsVote] at hc
      obtain ⟨_, hcl, hat⟩ := World.cells?_some hc
      obtain ⟨x, hok, hx⟩ := open_voteC hcl ht
      refine ⟨x, hok, fun i hi' => ?_⟩
      have := hat i hi'
      rw [add_add', hx] at this
      rw [Nat.mul_comm]
      exact this
    have hlen : ((List.range len).map fun k => if hk : k < len then Classical.choose (each k hk) else ⟨0, 0, 0, []⟩).length = len := by rw [List.length_map, List.length_range]
    refine ⟨_, (List.range len).map fun k => if hk : k < len then Classical.choose (each k hk) else ⟨0, 0, 0, []⟩, rfl, fun x hx => ?_, some a, _, by rw [hlen], by rw [hlen]; exact hle, by rw [hlen]; omega, fun h0 => ⟨a, rfl, ?_, fun k x hk i hi' => ?_⟩⟩
    · obtain ⟨k, hk, rfl⟩ := List.mem_map.1 hx
      have hk' := List.mem_range.1 hk
      simp only [hk', dif_pos]
      exact (Classical.choose_spec (each k hk')).1
    · rw [hlen] at h0
      have h5 := Classical.choose_spec (each 0 h0)
      have h6 := h5.2 0 (by omega)
      rw [List.getElem?_eq_getElem (by rw [voteC_length h5.1]; omega)] at h6
      have := block_lt_of_cell h6
      rwa [block_add] at this
    · have hkl := (List.getElem?_eq_some_iff.1 hk).1
      rw [hlen] at hkl
      rw [List.getElem?_map, List.getElem?_range hkl] at hk
      simp only [Option.map_some, hkl, dif_pos, Option.some.injEq] at hk
      rw [← hk]
      exact (Classical.choose_spec (each k hkl)).2 i hi'
end
end Go.Proofs.Ytpjeildiahklpaa
