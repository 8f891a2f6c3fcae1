/-
  Layer 10: the guard 'writes': it answers true, in whatever memory in which the tables lie. No condition.
  Layer 10: a journal with its slab, in blocks of a law's own. No condition.
  Layer 10: the law JournalBound. In whatever memory in which the tables lie. No condition.
  Layer 10: what is there again of a record that was written when the power went. Mathematics; no condition.
  Layer 10 again: a record that is written with power for so many steps, a crash behind it, and what is there again. Mathematics; no condition.
  Layer 10: the law JournalWhole. In whatever memory in which the tables lie. No condition.
-/
import Derived.Test.YtkbdkeclbokhdaaDoorJrnMath
import Derived.Test.YtkbdkeclbokhdaaDoorKSha
namespace Go.Proofs.YtkbdkeclbokhdaaDoor
open Go Go.RowKit Go.Shelf

section
variable {P : Program} {ops : Array Oper} {rest : List Oper} {o : Oper} {a : Act} {w : World} {Q : Exit → Act → World → Prop}
end
/-- A slab that opens. -/
theorem open_some {Z : Nat → Prop} {gd : Nat} {sd sd' : SlabS} {s : JrnS} {w : World} (hT : Tables w) (hd : SlabAt w Z gd sd) (ho : openJ sd = (some s, sd', 0)) :
    Calls Tryd.prog 13 #[.pointer (some ⟨gd, 0, none⟩)] w fun e w' => ∃ g Y Z', e = .returned (.tuple #[.pointer (some ⟨g, 0, none⟩), .int .i64 0]) ∧ JrnAt w' Y g gd s ∧ SlabAt w' Z' gd sd' ∧ (∀ i, Y i → ¬ Z' i) ∧ Turn Z w w' ∧ (∀ i, Y i → w.heap.size ≤ i) ∧ ∀ i, Z' i → Z i ∨ w.heap.size ≤ i :=
  (open_any Z gd sd w hT hd).mono (by
    rintro e w' ⟨Z', p, rfl, h1, h2, h3, h4⟩
    rw [ho] at h1 h4 ⊢
    obtain ⟨g, Y, rfl, q1, q2, q3⟩ := h4
    exact ⟨g, Y, Z', rfl, q1, h1, q3, h2, q2, h3⟩)
theorem below_turn {B : Nat} {S : Nat → Prop} {w0 W W' : World} (hb : Below B w0 W) (hB : B ≤ w0.heap.size) (ht : Turn S W W') (hs : ∀ i, S i → B ≤ i) : Below B w0 W' :=
  hb.trans (ht.below (Nat.le_trans hB hb.size) (fun i hi h => by have := hs i h; omega))
theorem openJ_all (n : Nat) (l : List (List UInt8)) (sure : Nat) (p : Int) (h : ∀ d ∈ l, d.length < 16777216) : openJ ⟨n, recsT zeroD l, sure, p⟩ = (some ⟨l, lastT zeroD l, false⟩, ⟨n, recsT zeroD l, sure, p⟩, 0) := by
  unfold openJ
  rw [readJ_all l zeroD h]
  rfl
theorem decP_neg {p : Int} (h : p < 0) : decP p = p := by
  unfold decP
  rw [if_neg (by omega)]
end Go.Proofs.YtkbdkeclbokhdaaDoor
namespace Go.Proofs.YtkbdkeclbokhdaaDoor
open Go Go.RowKit Go.Shelf

/-- A journal in block g on the slab in block gd; S: blocks that bear all that is theirs. -/
def JS (w : World) (S : Nat → Prop) (g gd : Nat) (s : JrnS) (sd : SlabS) : Prop :=
  ∃ Y Z, JrnAt w Y g gd s ∧ SlabAt w Z gd sd ∧ (∀ i, Y i → ¬ Z i) ∧ (∀ i, Y i → S i) ∧ (∀ i, Z i → S i) ∧ ∀ i, S i → i < w.heap.size
section
variable {w w' : World} {S T : Nat → Prop} {g gd : Nat} {s : JrnS} {sd : SlabS}
theorem JS.turn (h : JS w S g gd s sd) (ht : Turn T w w') (hs : ∀ i, S i → ¬ T i) : JS w' S g gd s sd := by
  obtain ⟨Y, Z, h1, h2, h3, h4, h5, h6⟩ := h
  exact ⟨Y, Z, h1.turn ht (fun i hi => hs i (h4 i hi)), h2.turn ht (fun i hi => hs i (h5 i hi)), h3, h4, h5, fun i hi => Nat.lt_of_lt_of_le (h6 i hi) ht.size⟩
theorem JS.lt (h : JS w S g gd s sd) : ∀ i, S i → i < w.heap.size := by
  obtain ⟨Y, Z, h1, h2, h3, h4, h5, h6⟩ := h
  exact h6
theorem JS.below (h : JS w S g gd s sd) (hb : Below w.heap.size w w') : JS w' S g gd s sd := h.turn (Turn.of_below hb) (fun i hi => by have := h.lt i hi; omega)
/-- What a call leaves. -/
def JOut (S : Nat → Prop) (g gd : Nat) (s : JrnS) (sd : SlabS) (w w' : World) : Prop := ∃ S', JS w' S' g gd s sd ∧ Turn S w w' ∧ ∀ i, S' i → S i ∨ w.heap.size ≤ i
theorem JOut.of {s' : JrnS} {sd' : SlabS} {Y Z : Nat → Prop} (_h : JS w S g gd s sd) (hY : ∀ i, Y i → S i) (hZ : ∀ i, Z i → S i) (hl : BLeft Y Z g gd s' sd' w w') : JOut S g gd s' sd' w w' := by
  obtain ⟨Y', Z', k1, k2, k3, k4, k5, k6⟩ := hl
  have hz : ∀ i, Z' i → i < w'.heap.size := by obtain ⟨_, _, _, _, _, q, _⟩ := k2; exact q
  refine ⟨fun i => Y' i ∨ Z' i, ⟨Y', Z', k1, k2, k3, fun i hi => .inl hi, fun i hi => .inr hi, fun i hi => ?_⟩, k4.mono fun i _ hi => ?_, fun i hi => ?_⟩
  · rcases hi with hi | hi
    · exact k1.blocks i hi
    · exact hz i hi
  · rcases hi with hi | hi
    · exact hY i hi
    · exact hZ i hi
  · rcases hi with hi | hi
    · exact (k5 i hi).imp (hY i) id
    · exact (k6 i hi).imp (hZ i) id
theorem js_write (A : Option Addr) (n c : Nat) (d : List UInt8) (hT : Tables w) (h : JS w S g gd s sd) (hn : s.recs.length < 100000000) (hr : RdB w (fun i => i < w.heap.size ∧ ¬ S i) (.slice A n c) d) :
    Calls Tryd.prog 16 #[.pointer (some ⟨g, 0, none⟩), .slice A n c] w fun e w' => e = .returned (.int .i64 (writeJ s sd d).2.2) ∧ JOut S g gd (writeJ s sd d).1 (writeJ s sd d).2.1 w w' := by
  have h' := h
  obtain ⟨Y, Z, h1, h2, h3, h4, h5, h6⟩ := h
  refine (write_any Y Z g gd s sd A n c d w hT h1 h2 h3 hn (hr.mono fun i hi => ⟨hi.1, fun hz => hi.2 (h5 i hz)⟩)).mono ?_
  rintro e w' ⟨he, hl⟩
  exact ⟨he, JOut.of h' h4 h5 hl⟩
theorem js_len (h : JS w S g gd s sd) : Calls Tryd.prog 24 #[.pointer (some ⟨g, 0, none⟩)] w fun e w' => e = .returned (.int .i64 (s.recs.length : Int)) ∧ w' = w := by
  obtain ⟨Y, Z, h1, h2, h3, h4, h5, h6⟩ := h
  exact len_any Y g gd s w h1
/-- A new journal on a slab. -/
theorem js_open {Z : Nat → Prop} {sd' : SlabS} (hT : Tables w) (hd : SlabAt w Z gd sd) (ho : openJ sd = (some s, sd', 0)) :
    Calls Tryd.prog 13 #[.pointer (some ⟨gd, 0, none⟩)] w fun e w' => ∃ g S', e = .returned (.tuple #[.pointer (some ⟨g, 0, none⟩), .int .i64 0]) ∧ JS w' S' g gd s sd' ∧ Turn Z w w' ∧ ∀ i, S' i → Z i ∨ w.heap.size ≤ i := by
  refine (open_some hT hd ho).mono ?_
  rintro e w' ⟨g, Y, Z', rfl, h1, h2, h3, h4, h5, h6⟩
  have hz : ∀ i, Z' i → i < w'.heap.size := by obtain ⟨_, _, _, _, _, q, _⟩ := h2; exact q
  refine ⟨g, fun i => Y i ∨ Z' i, rfl, ⟨Y, Z', h1, h2, h3, fun i hi => .inl hi, fun i hi => .inr hi, fun i hi => ?_⟩, h4, fun i hi => ?_⟩
  · rcases hi with hi | hi
    · exact h1.blocks i hi
    · exact hz i hi
  · rcases hi with hi | hi
    · exact .inr (h5 i hi)
    · exact h6 i hi
end
/-- Records that are written on a slab with power for ever. -/
def jL (l : List (List UInt8)) : JrnS := ⟨l, lastT zeroD l, false⟩
def sL (n : Nat) (l : List (List UInt8)) (sure : Nat) : SlabS := ⟨n, recsT zeroD l, sure, -1⟩
theorem flat_le {l : List (List UInt8)} {m : Nat} (h : ∀ d ∈ l, d.length ≤ m) : l.flatten.length ≤ m * l.length := by
  induction l with
  | nil => simp
  | cons x l ih =>
    have h1 := h x (List.mem_cons_self ..)
    have h2 := ih fun d hd => h d (List.mem_cons_of_mem _ hd)
    rw [List.flatten_cons, List.length_append, List.length_cons, Nat.mul_succ]
    omega
end Go.Proofs.YtkbdkeclbokhdaaDoor
namespace Go.Proofs.YtkbdkeclbokhdaaDoor
open Go Go.RowKit Go.Shelf

theorem js_lenL {w : World} {S : Nat → Prop} {g gd : Nat} {l : List (List UInt8)} {sd : SlabS} (h : JS w S g gd (jL l) sd) : Calls Tryd.prog 24 #[.pointer (some ⟨g, 0, none⟩)] w fun e w' => e = .returned (.int .i64 (l.length : Int)) ∧ w' = w := js_len h
end Go.Proofs.YtkbdkeclbokhdaaDoor
namespace Go.Proofs.YtkbdkeclbokhdaaDoor
open Go Go.RowKit

theorem cut_ever (n : Nat) (bs : List UInt8) (sure k : Nat) (hk : k ≤ bs.length) : (SlabS.mk n bs sure (-1)).cut (k : Int) = (⟨n, bs.take k, min sure k, -1⟩, 0) := by
  unfold SlabS.cut
  rw [if_neg (show ¬ ((k : Int) < 0 ∨ (bs.length : Int) < (k : Int)) by omega), if_neg (show ¬ (-1 : Int) = 0 by decide), decP_neg (show (-1 : Int) < 0 by decide), Int.toNat_natCast]
/-- A slab on which all is sure. -/
def sF (n : Nat) (l : List (List UInt8)) : SlabS := sL n l (recsT zeroD l).length
theorem left_full (bs : List UInt8) (n : Nat) (p keep : Int) : (SlabS.mk n bs bs.length p).left keep = bs.length := by
  unfold SlabS.left
  dsimp only
  omega
end Go.Proofs.YtkbdkeclbokhdaaDoor
namespace Go.Proofs.YtkbdkeclbokhdaaDoor
open Go Go.RowKit

/-- What is there again of records that were sure and a part of one more that lies behind them: all that is there is sure. -/
theorem open_sure (n : Nat) (l : List (List UInt8)) (d : List UInt8) (m : Nat) (hl : ∀ x ∈ l, x.length < 16777216) (hd : d.length < 16777216) (hm : m ≤ 35 + d.length) :
    ∃ l1, (l1 = l ∨ l1 = l ++ [d]) ∧ openJ ⟨n, recsT zeroD l ++ (recB (lastT zeroD l) d).take m, (recsT zeroD l).length + m, -1⟩ = (some (jL l1), sF n l1, 0) := by
  by_cases hf : m = 35 + d.length
  · refine ⟨l ++ [d], .inr rfl, ?_⟩
    have hall := openJ_all n (l ++ [d]) (recsT zeroD (l ++ [d])).length (-1) (fun x hx => by
      rcases List.mem_append.1 hx with hx | hx
      · exact hl x hx
      · rw [List.mem_singleton.1 hx]
        exact hd)
    rw [hf, List.take_of_length_le (by rw [recB_length]; omega)]
    rw [recsT_snoc, List.length_append, recB_length] at hall
    rw [hall]
    unfold sF sL jL
    rw [recsT_snoc, List.length_append, recB_length]
  · have hr : readJ zeroD (recsT zeroD l ++ (recB (lastT zeroD l) d).take m) = (l, lastT zeroD l, (recB (lastT zeroD l) d).take m, 20) := by
      rw [readJ_recs _ l zeroD hl, readJ_part _ d hd m (by omega), List.append_nil]
    have hlen : ((recB (lastT zeroD l) d).take m).length = m := by rw [List.length_take, recB_length]; omega
    refine ⟨l, .inl rfl, ?_⟩
    by_cases h0 : m = 0
    · unfold openJ
      rw [hr]
      dsimp only
      rw [if_neg (by decide), if_pos (by rw [hlen]; exact h0), h0, List.take_zero, List.append_nil]
      rfl
    · have e : (recsT zeroD l ++ (recB (lastT zeroD l) d).take m).length - ((recB (lastT zeroD l) d).take m).length = (recsT zeroD l).length := by rw [List.length_append]; omega
      unfold openJ
      rw [hr]
      dsimp only
      rw [if_neg (by decide), if_neg (by rw [hlen]; exact h0), e, cut_ever _ _ _ _ (by rw [List.length_append]; omega), take_app _ _ _ rfl, if_pos rfl, Nat.min_eq_right (by omega)]
      rfl
theorem filed_lay (n : Nat) (l : List (List UInt8)) (d : List UInt8) (p : Int) (hd : d.length ≤ 262144) : writeJ (jL l) ((sF n l).brk p) d = (if (((sF n l).brk p).lay (recB (lastT zeroD l) d)).2 = 0 then (jL (l ++ [d]), (((sF n l).brk p).lay (recB (lastT zeroD l) d)).1, 0) else if (((sF n l).brk p).lay (recB (lastT zeroD l) d)).2 = 90 then (⟨l, lastT zeroD l, true⟩, (((sF n l).brk p).lay (recB (lastT zeroD l) d)).1, 90) else (jL l, (((sF n l).brk p).lay (recB (lastT zeroD l) d)).1, (((sF n l).brk p).lay (recB (lastT zeroD l) d)).2)) := by
  unfold writeJ
  rw [if_neg (show ¬ (jL l).down = true from by show ¬ (false = true); decide), if_neg (by omega)]
  unfold jL
  rw [lastT_snoc]
theorem filed_app (n : Nat) (l : List (List UInt8)) (d : List UInt8) (p : Int) (h : (recsT zeroD l).length + 35 + d.length ≤ n) :
    ((sF n l).brk p).app (recB (lastT zeroD l) d) = if p = 0 then ((sF n l).brk p, 90) else (⟨n, recsT zeroD l ++ recB (lastT zeroD l) d, (recsT zeroD l).length, decP p⟩, 0) := by
  unfold SlabS.app
  rw [if_neg (show ¬ ((sF n l).brk p).room - ((sF n l).brk p).bs.length < (recB (lastT zeroD l) d).length from by rw [recB_length]; show ¬ n - (recsT zeroD l).length < 35 + d.length; omega)]
  rfl
/-- With power enough it is written, and sure. -/
theorem filed_up (n : Nat) (l : List (List UInt8)) (d : List UInt8) (p : Int) (hd : d.length ≤ 262144) (h : (recsT zeroD l).length + 35 + d.length ≤ n) (h0 : p ≠ 0) (h1 : p ≠ 1) :
    writeJ (jL l) ((sF n l).brk p) d = (jL (l ++ [d]), (sF n (l ++ [d])).brk (decP (decP p)), 0) := by
  have hdp : ¬ decP p = 0 := by unfold decP; split <;> omega
  have hlay : ((sF n l).brk p).lay (recB (lastT zeroD l) d) = ((sF n (l ++ [d])).brk (decP (decP p)), 0) := by
    unfold SlabS.lay
    rw [filed_app n l d p h, if_neg h0, if_pos rfl]
    unfold SlabS.sync
    rw [if_neg hdp]
    unfold sF sL SlabS.brk
    rw [recsT_snoc]
  rw [filed_lay n l d p hd, hlay, if_pos rfl]
/-- Without, it is down; and behind a crash there is what was there, and perhaps this one more. -/
theorem filed_down (n : Nat) (l : List (List UInt8)) (d : List UInt8) (p keep : Int) (hd : d.length ≤ 262144) (h : (recsT zeroD l).length + 35 + d.length ≤ n) (hl : ∀ x ∈ l, x.length < 16777216) (hp : p = 0 ∨ p = 1) :
    (writeJ (jL l) ((sF n l).brk p) d).2.2 = 90 ∧ ∃ l1, (l1 = l ∨ l1 = l ++ [d]) ∧ openJ ((writeJ (jL l) ((sF n l).brk p) d).2.1.crash keep) = (some (jL l1), sF n l1, 0) := by
  have hrl := recB_length (lastT zeroD l) d
  rw [filed_lay n l d p hd]
  by_cases h0 : p = 0
  · have hlay : ((sF n l).brk p).lay (recB (lastT zeroD l) d) = ((sF n l).brk p, 90) := by
      unfold SlabS.lay
      rw [filed_app n l d p h, if_pos h0, if_neg (show ¬ (90 : Int) = 0 by decide)]
    rw [hlay, if_neg (show ¬ (90 : Int) = 0 by decide), if_pos rfl]
    refine ⟨rfl, ?_⟩
    have e : ((sF n l).brk p).crash keep = ⟨n, recsT zeroD l ++ (recB (lastT zeroD l) d).take 0, (recsT zeroD l).length + 0, -1⟩ := by
      show SlabS.crash ⟨n, recsT zeroD l, (recsT zeroD l).length, p⟩ keep = _
      unfold SlabS.crash
      rw [left_full, List.take_zero, List.append_nil]
      dsimp only
      rw [List.take_of_length_le (Nat.le_refl _)]
      rfl
    show ∃ l1, _ ∧ openJ (((sF n l).brk p).crash keep) = _
    rw [e]
    exact open_sure n l d 0 hl (by omega) (Nat.zero_le _)
  · have h1 : p = 1 := by omega
    subst h1
    have hlay : ((sF n l).brk 1).lay (recB (lastT zeroD l) d) = (⟨n, recsT zeroD l ++ recB (lastT zeroD l) d, (recsT zeroD l).length, 0⟩, 90) := by
      unfold SlabS.lay
      rw [filed_app n l d 1 h, if_neg (show ¬ (1 : Int) = 0 by decide), if_pos rfl]
      unfold SlabS.sync
      rw [if_pos (show decP 1 = 0 from rfl)]
      rfl
    rw [hlay, if_neg (show ¬ (90 : Int) = 0 by decide), if_pos rfl]
    refine ⟨rfl, ?_⟩
    have e : (SlabS.mk n (recsT zeroD l ++ recB (lastT zeroD l) d) (recsT zeroD l).length 0).crash keep = ⟨n, recsT zeroD l ++ (recB (lastT zeroD l) d).take (min (max keep 0) ((35 + d.length : Nat) : Int)).toNat, (recsT zeroD l).length + (min (max keep 0) ((35 + d.length : Nat) : Int)).toNat, -1⟩ := by
      unfold SlabS.crash SlabS.left
      dsimp only
      have e : ((recsT zeroD l ++ recB (lastT zeroD l) d).length : Int) - ((recsT zeroD l).length : Int) = ((35 + d.length : Nat) : Int) := by rw [List.length_append, hrl]; omega
      rw [e, List.take_append, Nat.add_sub_cancel_left, List.take_of_length_le (Nat.le_add_right _ _)]
    show ∃ l1, _ ∧ openJ ((SlabS.mk n (recsT zeroD l ++ recB (lastT zeroD l) d) (recsT zeroD l).length 0).crash keep) = _
    rw [e]
    exact open_sure n l d _ hl (by omega) (by omega)
/-- A crash behind what is sure takes nothing. -/
theorem filed_crash (n : Nat) (l : List (List UInt8)) (p keep : Int) (hl : ∀ x ∈ l, x.length < 16777216) : openJ (((sF n l).brk p).crash keep) = (some (jL l), sF n l, 0) := by
  have e : ((sF n l).brk p).crash keep = ⟨n, recsT zeroD l, (recsT zeroD l).length, -1⟩ := by
    show SlabS.crash ⟨n, recsT zeroD l, (recsT zeroD l).length, p⟩ keep = _
    unfold SlabS.crash
    rw [left_full]
    dsimp only
    rw [List.take_of_length_le (Nat.le_refl _)]
  rw [e]
  exact openJ_all n l _ (-1) hl
end Go.Proofs.YtkbdkeclbokhdaaDoor
namespace Go.Proofs.YtkbdkeclbokhdaaDoor
open Go Go.RowKit Go.Shelf

/-- What is done to the slab alone. -/
theorem js_left {w : World} {T : Nat → Prop} {g gd : Nat} {s : JrnS} {sd sd' : SlabS} {f : FuncId} {args : Array Value} {r : Ending} (h : JS w T g gd s sd) (hc : ∀ Z, SlabAt w Z gd sd → Calls Tryd.prog f args w fun e w' => e = r ∧ Left Z gd sd' w w') :
    Calls Tryd.prog f args w fun e w' => e = r ∧ JOut T g gd s sd' w w' := by
  have h' := h
  obtain ⟨Y, Z, h1, h2, h3, h4, h5, h6⟩ := h
  refine (hc Z h2).mono ?_
  rintro e w' ⟨he, hl⟩
  exact ⟨he, JOut.of h' h4 h5 (bleft_lay h1 h3 (Below.refl _ _) hl)⟩
theorem js_new {w : World} {T : Nat → Prop} {gd : Nat} {sd : SlabS} {g : Nat} {s : JrnS} (h : JS w T g gd s sd) : ∃ Y Z, JrnAt w Y g gd s ∧ SlabAt w Z gd sd ∧ (∀ i, Y i → ¬ Z i) ∧ (∀ i, Y i → T i) ∧ (∀ i, Z i → T i) := by
  obtain ⟨Y, Z, h1, h2, h3, h4, h5, h6⟩ := h
  exact ⟨Y, Z, h1, h2, h3, h4, h5⟩
theorem js_at {w : World} {T : Nat → Prop} {g gd : Nat} {l : List (List UInt8)} {sd : SlabS} (h : JS w T g gd (jL l) sd) (k : Nat) (hk : k < l.length) (x : List UInt8) (hx : l.getD k [] = x) : Calls Tryd.prog 26 #[.pointer (some ⟨g, 0, none⟩), .int .i64 (k : Int)] w fun e w' => ∃ A' c', e = .returned (.tuple #[.slice A' x.length c', .int .i64 0]) ∧ RdB w' (fun b => b < w'.heap.size) (.slice A' x.length c') x ∧ Below w.heap.size w w' := by
  obtain ⟨Y, Z, h1, h2, h3, h4, h5, h6⟩ := h
  subst hx
  refine (at_any Y g gd (jL l) k hk w h1).mono ?_
  rintro e w' ⟨A', c', he, q1, _, q2⟩
  exact ⟨A', c', he, q1.mono fun i hi => hi.2, q2⟩
end Go.Proofs.YtkbdkeclbokhdaaDoor
