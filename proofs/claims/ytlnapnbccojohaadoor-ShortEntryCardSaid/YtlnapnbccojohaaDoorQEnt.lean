/-
  short's Lists where the two part; in whatever memory in which the tables lie. No condition.
  short's Lists in every case: of lists with one root, either they are alike, or two unlike texts with one sum are told; of others, where two are told, their lists have one root. No condition.
  short's Entry, in the words of its law: where the way leads to the root, either entry and way are the list's own, or two unlike texts with one sum are told. No condition.
-/
import Derived.Test.YtlnapnbccojohaaDoorShEntryN
import Derived.Test.YtlnapnbccojohaaDoorShEq
import Derived.Test.YtlnapnbccojohaaDoorShWay
import Derived.Test.YtlnapnbccojohaaDoorShRefL
namespace Go.Proofs.YtlnapnbccojohaaDoor
open Go Go.RowKit Go.Shelf TreeM

end Go.Proofs.YtlnapnbccojohaaDoor
namespace Go.Proofs.YtlnapnbccojohaaDoor
open Go Go.RowKit Go.Shelf TreeM

theorem leadsV_top (c : Int) (n p : Nat) (path : List D) (root : D) (hp : p < n) (hm : n ≤ 1000000) (entry : List UInt8) : leadsV c entry (p : Int) (n : Int) path root = (decide (path.length = (stepsB p (n - 1)).length) && (id32 (cutD c (sha (topP c (stepsB p (n - 1)) path (0 :: entry)))) == id32 root)) := by
  unfold leadsV
  rw [if_neg (by omega), Int.toNat_natCast, Int.toNat_natCast]
theorem textsP_len (c : Int) : ∀ (bs : List Bool) (xs : List D) (t : List UInt8) (i : Nat), t.length ≤ 1000001 → ((textsP c bs xs t).getD i []).length ≤ 1000001 := by
  intro bs
  induction bs with
  | nil =>
    intro xs t i ht
    cases xs <;> (simp only [textsP]; cases i <;> simp [ht])
  | cons b bs ih =>
    intro xs t i ht
    cases xs with
    | nil =>
      simp only [textsP]
      cases i <;> simp [ht]
    | cons x xs =>
      simp only [textsP]
      cases i with
      | zero => simpa using ht
      | succ i =>
        simp only [List.getD_cons_succ]
        refine ih xs _ i ?_
        unfold side
        split <;> simp [id32]
end Go.Proofs.YtlnapnbccojohaaDoor
namespace Go.Proofs.YtlnapnbccojohaaDoor
open Go Go.RowKit Go.Shelf TreeM

theorem leadsV_ref (c : Int) (entry : List UInt8) (path : List D) (a n : Nat) (root : D) (ha : a < n) (hn : n ≤ 1000000) : leadsV c entry (a : Int) (n : Int) path root = ((leadsR c entry path.reverse a n).2 && (id32 (leadsR c entry path.reverse a n).1 == id32 root)) := by
  rw [leadsV_top c n a path root ha hn entry]
  have h := leadsR_steps c entry path.reverse a n ha
  rw [List.length_reverse, List.reverse_reverse] at h
  rw [h.1]
  by_cases hl : path.length = (stepsB a (n - 1)).length
  · rw [h.2 hl]
  · rw [decide_eq_false hl, Bool.false_and, Bool.false_and]
theorem leadsV_long (c : Int) (entry : List UInt8) (path : List D) (a n : Nat) (ps : List (List UInt8)) (root : D) (hps : ps.length = n) (ha : a < n) (hn : n ≤ 1000000) (h64 : 64 < path.length) : leadsV c entry (a : Int) (n : Int) path root = false := by
  rw [leadsV_top c n a path root ha hn entry]
  have h1 := wayC_length c n ps a hps ha hn
  have h2 := (wayC_leads c n ps a hps ha).1
  rw [decide_eq_false (by omega), Bool.false_and]
/-- What Entry answers with. -/
def EntryIs (c : Int) (w W : World) (x y : Value) (b lead : Bool) (own entry : List UInt8) (way path : List D) : Prop :=
  (b = false ∧ x = .slice none 0 0 ∧ y = .slice none 0 0 ∧ (lead = true → own = entry ∧ way.map id32 = path.map id32)) ∨
  (b = true ∧ lead = true ∧ ∃ s t, Bad c s t ∧ s.length ≤ 1000001 ∧ t.length ≤ 1000001 ∧ RdB W (fun b => w.heap.size ≤ b ∧ b < W.heap.size) x s ∧ RdB W (fun b => w.heap.size ≤ b ∧ b < W.heap.size) y t)
theorem entryS_law (c : Int) (A : Option Addr) (n cp : Nat) (ps : List (List UInt8)) (Ae : Option Addr) (ne ce : Nat) (entry : List UInt8) (a : Nat) (Av : Option Addr) (nv cv : Nat) (path : List D) (w : World) (hT : Tables w)
    (hn : ps.length = n) (ha : a < n) (hm : n ≤ 1000000) (hc : n ≤ cp) (hl : ∀ p ∈ ps, p.length ≤ 1000000) (hr : RdP w (fun b => b < w.heap.size) A ps) (hne : entry.length = ne) (hle : ne ≤ 1000000) (he : RdB w (fun b => b < w.heap.size) (.slice Ae ne ce) entry)
    (hnv : path.length = nv) (hv70 : nv ≤ 100) (hp : RdI w (fun b => b < w.heap.size) (.slice Av nv cv) path) :
    Calls Tryd.prog 34 #[.int .i64 c, .slice A n cp, .slice Ae ne ce, .int .i64 (a : Int), .slice Av nv cv] w fun e w' => ∃ x y b, e = .returned (.tuple #[.agg #[x, y], .bool b]) ∧ EntryIs c w w' x y b (leadsV c entry (a : Int) (n : Int) path (rootC c ps)) (ps.getD a []) entry (wayC c ps a) path ∧ Below w.heap.size w w' := by
  refine (entryS_all c A n cp ps Ae ne ce entry a Av nv cv path w hT hn ha hm hc hl hr hne hle he hnv hv70 hp).mono ?_
  rintro e w' ⟨x, y, b, rfl, hP, hb⟩
  refine ⟨x, y, b, rfl, ?_, hb⟩
  have hw := wayC_leads c n ps a hn ha
  have hge : ((0 : UInt8) :: ps.getD a []).length ≤ 1000001 := by
    rw [List.getD_eq_getElem?_getD]
    cases h : ps[a]? with
    | none => simp
    | some t =>
      have := hl t (List.mem_of_getElem? h)
      simp
      omega
  rcases hP with ⟨hb0, hx, hy, hno⟩ | ⟨hb1, hlead, i, hi, hbad, hx, hy⟩
  · refine Or.inl ⟨hb0, hx, hy, fun hlead => ?_⟩
    have hno' := hno hlead
    rw [leadsV_top c n a path (rootC c ps) ha hm entry] at hlead
    obtain ⟨h1, h2⟩ := Bool.and_eq_true_iff.1 hlead
    have h1 := of_decide_eq_true h1
    rw [beq_iff_eq] at h2
    have := no_bad c (stepsB a (n - 1)) (wayC c ps a) path (0 :: ps.getD a []) (0 :: entry) hw.1.symm h1.symm (by rw [hw.2, h2]; rfl) (fun i hi => by
      refine hno' i ?_
      rw [textsP_length c _ _ _ hw.1.symm]
      exact hi)
    exact ⟨(List.cons.inj this.1).2, this.2⟩
  · exact Or.inr ⟨hb1, hlead, _, _, hbad, textsP_len c _ _ _ _ hge, textsP_len c _ _ _ _ (by simp; omega), hx, hy⟩
theorem id32_at {f g : D} (h : id32 f = id32 g) (i : Nat) (hi : i < 32) : f i = g i := by
  have := congrArg (fun l : List UInt8 => l[i]?) h
  simpa [id32, hi] using this
theorem rdI_alike {W : World} {ok : Nat → Prop} {v : Value} {l m : List D} (h : RdI W ok v l) (hlm : l.map id32 = m.map id32) : RdI W ok v m := by
  have hlen : l.length = m.length := by simpa using congrArg List.length hlm
  obtain ⟨A, c, hv, h1, h2, h3⟩ := h
  refine ⟨A, c, hlen ▸ hv, hlen ▸ h1, hlen ▸ h2, fun h0 => ?_⟩
  obtain ⟨ad, hA, hok, hc⟩ := h3 (by omega)
  refine ⟨ad, hA, hok, fun k hk i hi => ?_⟩
  rw [hc k (by omega) i hi]
  have e := congrArg (fun L : List (List UInt8) => L[k]?) hlm
  simp only [List.getElem?_map, List.getElem?_eq_getElem hk, List.getElem?_eq_getElem (show k < l.length by omega), Option.map_some, Option.some.injEq] at e
  rw [List.getD_eq_getElem?_getD, List.getD_eq_getElem?_getD, List.getElem?_eq_getElem hk, List.getElem?_eq_getElem (show k < l.length by omega), Option.getD_some, Option.getD_some, id32_at e i hi]
end Go.Proofs.YtlnapnbccojohaaDoor
