/-
  Layer 21: All: what is on its way is gone through, each message in memory of its own. In whatever memory. No condition.
-/
import Derived.Test.YtekakelkjnhehaaPstTake
import Derived.Test.YtekakelkjnhehaaSeqG
import Derived.Test.YtekakelkjnhehaaOps
import Derived.Shelf.RegionOpen
import Derived.TacticsInMore
import Derived.LoopNIn
import Derived.LoopIn
namespace Go.Proofs.Ytekakelkjnhehaa
open Go Go.RowKit

theorem wpListIn_load_run {F : Fence} {n : Nat} {P : Program} {ops : Array Oper} {rest : List Oper} {o : Oper} {a : Act} {w : World} {Q : Exit → Act → World → Prop} (hF : ∀ f, F.fn f) (hgd : o.guard = none) (ty : TypeId) (x : Operand) (ho : o.op = .load ty x) (p v : Value) (hx : a.eval x = p) (hl : (Instr.loadAt ty p).run P w = .ok v w)
    (h : wpListIn F n P ops Q rest (a.put o.dst v) w) : wpListIn F n P ops Q (o :: rest) a w :=
  wpListIn_val hF hgd (by rw [ho]; intro c hc; cases hc) _ w (by simp only [execOp, ho, hx, hl, Sem.run_bind, Sem.run_pure, Result.andThen_ok]) h
theorem RdM.kept {W W' : World} {ok : Nat → Prop} {v : Value} {l : List MailS} (h : RdM W ok v l) (hk : ∀ (a : Addr) (x : Value), ok a.block → W.cell? a = some x → W'.cell? a = some x) : RdM W' ok v l := by
  obtain ⟨p, h1, h2, h3⟩ := h
  exact ⟨p, h1, h2.kept hk, fun q hq => (h3 q hq).kept hk⟩
def encA (x : MailS × Nat) (o : Nat → Prop) (s : Nat) (W : World) (vs : Array Value) : Prop :=
  ∃ u, vs = #[.int .i64 (x.2 : Int), mailV x.1 u] ∧ W.ownsRow s 5 1 u x.1.bs.length (x.1.bs.map bv) ∧ ∀ b, o b → b < s
/-- Between two messages. -/
def AllR (W0 : World) (ok : Nat → Prop) (l : List MailS) (v : Value) (J : List (MailS × Nat) → (Nat → Prop) → World → Prop) (i : Value) (wr : World) : Prop :=
  ∃ (j : Nat) (o : Nat → Prop), j ≤ l.length ∧ i = .int .i64 (j : Int) ∧ J (l.zipIdx.take j) o wr ∧ (∀ b, o b → ¬ ok b) ∧ W0.heap.size ≤ wr.heap.size ∧ RdM wr ok v l
theorem zip_take {l : List MailS} {j : Nat} {m : MailS} (h : l[j]? = some m) : l.zipIdx.take (j + 1) = l.zipIdx.take j ++ [(m, j)] := by
  have hj := (List.getElem?_eq_some_iff.1 h).1
  rw [List.take_succ_eq_append_getElem (by rw [List.length_zipIdx]; exact hj), List.getElem_zipIdx]
  rw [List.getElem?_eq_getElem hj, Option.some.injEq] at h
  rw [h, Nat.zero_add]
set_option maxRecDepth 100000 in
set_option maxHeartbeats 4000000 in
theorem all_seq {Y : Nat → Prop} {g bp : Nat} {l : List MailS} {w : World} (h : PostAt w Y g l) (hp : Blk w bp 59 #[.pointer (some ⟨g, 0, none⟩)]) :
    SeqG Try.prog 27 #[.pointer (some ⟨bp, 0, none⟩)] encA (fun o => ∀ b, o b → ¬ Y b) l.zipIdx w := by
  intro y J Jx o W hW hJ hJx hY h0 hPre
  obtain ⟨v, q1, q2, q3, q4, q5⟩ := h
  obtain ⟨ok, hok⟩ : ∃ ok, (fun b => Y b ∧ b ≠ g) = ok := ⟨_, rfl⟩
  have hokW : ∀ b, ok b → b < W.heap.size := fun b hb => by
    rw [← hok] at hb
    exact Nat.lt_of_lt_of_le (q4 b hb.1) hW.size
  have hrd : RdM W ok v l := by
    rw [← hok]
    exact q2.turn (Turn.of_below hW) fun b hb h => by have := q4 b hb.1; omega
  obtain ⟨A, c, rfl, hc⟩ := hrd.form
  obtain ⟨n, hn⟩ : ∃ n, l.length = n := ⟨_, rfl⟩
  have cb := (hp.below hW hp.lt).cell 0
  have cg := (q1.below hW q1.lt).cell 0
  simp at cb cg
  have H0 : Hid (AllR W ok l (.slice A l.length c) J (.int .i64 0) W) := Lib.hid ⟨0, o, Nat.zero_le _, rfl, h0, fun b hb h => by rw [← hok] at h; exact hPre b hb h.1, Nat.le_refl _, hrd⟩
  rw [hn] at cg H0
  have hn6 : n ≤ 600 := by omega
  have HN := Lib.hid hn
  have HOK := Lib.hid hokW
  have HJ := Lib.hid hJ
  have HY := Lib.hid hY
  clear hW hJ hJx hY h0 hPre q1 q2 q3 q4 q5 hok hokW hrd hc hn hp
  refine callsIn_of_wp Try.func27 rfl trivial ?_ rfl
  simp only [Try.ntmps27, List.size_toArray, List.length_cons, List.length_nil, Nat.reduceAdd, Nat.reduceSub, Array.replicate_succ, Array.replicate_zero, List.push_toArray, List.append_toArray, List.nil_append, List.cons_append]
  gi_wp2
  gi_loopw [10] (fun i wr => AllR W ok l (.slice A n c) J i wr) (fun i _ => n - (intOf i).toNat)
  case atStart => exact H0.out
  case round =>
    clear H0
    obtain ⟨j, o', hj, rfl, hJ', hoY, hsz, hrd⟩ := hrel
    rw [HN.out] at hj
    by_cases hlt : j < n
    · have hji : (j : Int) < (n : Int) := by omega
      obtain ⟨m, hm⟩ : ∃ m, l[j]? = some m := ⟨_, List.getElem?_eq_getElem (by rw [HN.out]; exact hlt)⟩
      obtain ⟨ad, c', u, he, hadok, hu, hld⟩ := hrd.here hm
      rw [HN.out] at he
      obtain ⟨rfl, -, rfl⟩ := Value.slice.inj he
      have HLD := Lib.hid (hld wr fun a x _ hx => hx)
      have HPX : Hid (l.zipIdx.take (j + 1) = l.zipIdx.take j ++ [(m, j)]) := Lib.hid (zip_take hm)
      have HPF : Hid ((l.zipIdx.take j ++ [(m, j)]) <+: l.zipIdx) := Lib.hid (by rw [← HPX.out]; exact List.take_prefix _ _)
      have hix := fun w' => index_mail ad n c j hlt w'
      obtain ⟨Au, cu, rfl⟩ := hu.shape
      have HRD := Lib.hid (And.intro hrd hu)
      have HJ' := Lib.hid hJ'
      have HO' := Lib.hid (And.intro hoY (And.intro hsz (fun b (hb : o' b) => HJ.out.lt hJ' hb)))
      clear hJ' hoY hsz hrd hm hadok hu hld he
      have hs1 := HO'.out.2.1
      obtain ⟨W1, hW1⟩ : ∃ W1, wr.alloc (.cells (mC m (.slice Au m.bs.length cu)).toArray 48) = W1 := ⟨_, rfl⟩
      have hb1 : Below wr.heap.size wr W1 := by rw [← hW1]; exact (Below.refl _ _).alloc (Nat.le_refl _) _
      have hk1 : Blk W1 wr.heap.size 48 (mC m (.slice Au m.bs.length cu)).toArray := by rw [← hW1]; exact Blk.newAt _ _ rfl rfl
      have HAP := Lib.hid (mailApartO_any m (.slice Au m.bs.length cu) W1 ((HRD.out.2.kept fun a x ha hx => (hb1.cell (p := a) (Nat.lt_of_lt_of_le (HOK.out _ ha) hs1)).trans hx).mono fun b hb => Nat.lt_of_lt_of_le (HOK.out b hb) (Nat.le_trans hs1 hb1.size)))
      have HB1 := Lib.hid hb1
      have HK1 := Lib.hid hk1
      have HW1 := Lib.hid hW1
      clear hb1 hk1 hW1
      gi_wp2_with (first
        | (guard_target = wpListIn _ _ _ _ _ (Oper.mk _ (.load 48 (.tmp 13)) _ _ _ _ :: _) _ _; refine wpListIn_load_run (fun _ => trivial) rfl 48 _ rfl (.pointer (some (ad.add (j * 5)))) (mailV m (.slice Au m.bs.length cu)) rfl HLD.out ?_)
        | (guard_target = wpListIn _ _ _ _ _ (Oper.mk _ (.store 48 _ _) _ _ _ _ :: _) _ _; refine wpListIn_store_arr (fun _ => trivial) rfl 48 _ _ rfl wr.heap.size (mC m (.slice Au m.bs.length cu)).toArray rfl rfl 48 _ (heap_alloc_new wr _) (by kernel_rfl) rfl (mail_all rfl) ?_; rw [World.setRow_alloc_new, HW1.out])
        | (guard_target = wpListIn _ _ _ _ _ (Oper.mk _ (.load 48 (.tmp 4)) _ _ _ _ :: _) _ _; refine wpListIn_load_arr (fun _ => trivial) rfl 48 _ rfl wr.heap.size rfl 48 _ _ HK1.out Try.underlying48 rfl (by kernel_rfl) ?_)
        | (refine ⟨trivial, rfl, ?_⟩; gi_at_call 25; refine (callsIn_wide.2 HAP.out).mono ?_; rintro e W2 ⟨u', rfl, hr2, hb2⟩; have hb12 := HB1.out.trans (hb2.mono HB1.out.size); obtain ⟨fn, tm, assign, bd, hy, hR1⟩ := HY.out (l.zipIdx.take j) (m, j) wr.heap.size #[.int .i64 (j : Int), mailV m u'] o' W2 HPF.out (HJ.out.stay _ _ _ _ HJ'.out (.of_below hb12)) hs1 hb12.size ⟨u', rfl, own_base hr2 HB1.out.size, HO'.out.2.2⟩; have HB12 := Lib.hid hb12; clear hr2 hb2 hb12)
        | (refine ⟨rfl, ?_⟩; refine hR1.mono ?_; clear hR1; rintro e W' (⟨rfl, ⟨o2, hJ2, hgo⟩, hk2⟩ | ⟨rfl, o2, hJx2⟩)))
      · refine ⟨⟨j + 1, o2, by rw [HN.out]; omega, rfl, by rw [HPX.out]; exact hJ2, fun b hb h => ?_, Nat.le_trans hs1 (Nat.le_trans HB12.out.size hk2.size), HRD.out.1.kept fun a x ha hx => ?_⟩, ?_⟩
        · rcases hgo b hb with h' | h'
          · exact HO'.out.1 b h' h
          · have := HOK.out b h
            omega
        · have := HOK.out _ ha
          exact cell_keep hk2 (fun h => by
            rcases h with h | h
            · exact HO'.out.1 _ h ha
            · omega) ((HB12.out.cell (p := a) (by omega)).trans hx)
        · simp only [intOf]
          omega
      · refine bodyPost_ret (results_none rfl _ _ _) rfl ?_
        exact ⟨⟨_, rfl⟩, .inr ⟨_, o2, HPF.out, by simp, hJx2⟩⟩
    · obtain rfl : j = n := by omega
      have HJ' := Lib.hid hJ'
      clear hrd
      gi_wp2
      go_end0
      refine ⟨⟨_, rfl⟩, .inl ⟨o', ?_⟩⟩
      have := HJ'.out
      rw [List.take_of_length_le (by rw [List.length_zipIdx, HN.out]; omega)] at this
      exact this
/-- All. -/
theorem postAll_any (g : Nat) (w : World) : Calls Try.prog 18 #[.pointer (some ⟨g, 0, none⟩)] w fun e w' => e = .returned (.func (.func 27) #[] #[.pointer (some ⟨w.heap.size, 0, none⟩)]) ∧ w' = w.alloc (.cells #[.pointer (some ⟨g, 0, none⟩)] 59) := by
  go_enter Try.func18, Try.ntmps18
  go_wp2
  go_ret
  exact ⟨rfl, rfl⟩
end Go.Proofs.Ytekakelkjnhehaa
