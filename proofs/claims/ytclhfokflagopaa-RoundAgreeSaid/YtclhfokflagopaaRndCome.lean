/-
  Several ways to agreement: a mail comes to one of them. No condition.
-/
import Derived.Test.YtclhfokflagopaaRndTake
import Derived.Test.YtclhfokflagopaaRndCall2
namespace Go.Proofs.Ytclhfokflagopaa
open Go Go.RowKit Go.Maps

theorem mailC_id {v : MailS} (h : MailOk v) {i : Nat} (hi : i < 32) : (mailC v)[6 + i]? = some (Extern.Stop.cell (v.act.id.getD i 0)) := by
  have := h.act.id
  unfold IdOk at this
  unfold mailC actC
  rw [Nat.add_comm]
  simp only [List.getElem?_cons_succ]
  rw [List.getElem?_map, List.getElem?_eq_getElem (by omega), List.getD_eq_getElem?_getD, List.getElem?_eq_getElem (by omega)]
  rfl
theorem mail_id {W : World} {g t : Nat} {v : MailS} (h : Blk W g t (mailA v)) (hv : MailOk v) : (Instr.loadAt 24 (.pointer (some ⟨g, 6, none⟩))).run Try.prog W = .ok (idv v.act.id) W :=
  run_load_id W _ _ hv.act.id fun j hj => by
    rw [show (⟨g, 6, none⟩ : Addr).add j = ⟨g, 6 + j, none⟩ by simp [Addr.add], h.cell]
    unfold mailA
    rw [List.getElem?_toArray]
    exact mailC_id hv hj
theorem index_ptrs (g n c i : Nat) (hi : i < n) (w : World) : (Instr.indexAt 79 (.slice (some ⟨g, 0, none⟩) n c) (.int .i64 (i : Int))).run Try.prog w = .ok (.pointer (some ⟨g, i, none⟩)) w := by
  have hk1 : (i : Int) < (n : Int) := by omega
  have hu := Try.underlying79
  simp [Instr.indexAt, run_underlying hu, hi, go_sem]
theorem RoundAt.neMB {W : World} {B C M n g t : Nat} {kv : Value} {s : RdS} {cs : Array Value} (h : RoundAt W B C M n kv s) (hb : Blk W g t cs) : g ≠ M := fun e => by
  obtain ⟨T, ⟨D, ⟨es, c, h2, _⟩, _⟩, _⟩ := h.cnt.votes
  unfold Blk at hb
  rw [e] at hb
  rw [hb] at h2
  cases h2
/-- What one comes to. -/
theorem HallM.did {b : Nat} {W w' : World} {H : Nat} {h : HM} (k : HallM b W H h) (hw : b ≤ W.heap.size) {d : Nat} {x : RB} (hx : h.l[d]? = some x) {e : Ending} {s' : RdS} {acts : List ActS} (hd : Done W w' e x.B x.C x.M x.n x.kv s' acts) :
    ∃ v kv', e = .returned v ∧ OwnA W.heap.size w' v acts ∧ HallM b w' H { h with l := h.l.set d ⟨x.B, x.C, x.M, x.n + 202, kv', s'⟩ } ∧ Below b W w' ∧ ∀ (g t : Nat) (cs : Array Value), Blk W g t cs → t ≠ 132 → t ≠ 24 → Blk w' g t cs := by
  obtain ⟨kv', ⟨v, h1, h2⟩, h3, h4⟩ := hd
  obtain ⟨q1, q2⟩ := k.one hw hx h3 h4
  have hr : RoundAt W x.B x.C x.M x.n x.kv x.s := k.hall.at_ d x hx
  refine ⟨v, kv', h1, h2, q1, q2, fun g t cs hb ht1 ht2 => hb.eqAt (h4.block g hb.lt (blk_ne hb hr.blk ht1) (hr.neMB hb) fun e => ?_)⟩
  obtain ⟨ds, h5, _⟩ := row_at hr.own e.symm
  exact blk_ne hb h5 ht2 rfl
def stepH (H : Nat) (h : HM) (d : Nat) (x : RB) (kv vm : Value) (s : RdS) (acts : List ActS) : HM := { h with vm := vm, l := h.l.set d ⟨x.B, x.C, x.M, x.n + 202, kv, s⟩, ms := acts.foldl (takeM1 H d) h.ms, ds := acts.foldl (takeD1 d) h.ds }
def mailIn (m : MailS) : InS := if m.act.kind = 2 then ⟨3, m.act.round, m.act.num, m.src, 0, m.act.id⟩ else ⟨2, m.act.round, 0, 0, m.act.valid, m.act.id⟩
theorem giveS_voted (s : RdS) (r k q v : Int) (id : List UInt8) : giveS s ⟨3, r, k, q, v, id⟩ = settleS (votS s r k q id) := by
  unfold giveS preS
  simp
theorem giveA_voted (s : RdS) (r k q v : Int) (id : List UInt8) : giveA s ⟨3, r, k, q, v, id⟩ = settleA (votS s r k q id) := by
  unfold giveA preA preS
  simp
theorem giveS_offered (s : RdS) (r k q v : Int) (id : List UInt8) : giveS s ⟨2, r, k, q, v, id⟩ = settleS (offrS s r v id) := by
  unfold giveS preS
  simp
theorem giveA_offered (s : RdS) (r k q v : Int) (id : List UInt8) : giveA s ⟨2, r, k, q, v, id⟩ = settleA (offrS s r v id) := by
  unfold giveA preA preS
  simp
set_option maxRecDepth 100000 in
set_option maxHeartbeats 8000000 in
theorem come_vote {b : Nat} {W : World} {H : Nat} {h : HM} (k : HallM b W H h) (hw : b ≤ W.heap.size) (hH : H ≤ 7) (mm : MailS) (hmm : MailOk mm) (d : Nat) (hd : d < H) (hdd : mm.dst = (d : Int)) (x : RB) (hx : h.l[d]? = some x) (hn : x.n + 202 < maxLen) (h2 : mm.act.kind = 2) : Calls Try.prog 37 #[.pointer (some ⟨h.Hb, 0, none⟩), .agg (mailA mm)] W fun e w' => (∃ u, e = .returned u) ∧ Below b W w' ∧ ∃ kv' vm', HallM b w' H (stepH H h d x kv' vm' (giveS x.s (mailIn mm)) (giveA x.s (mailIn mm))) := by
  have e1 : mailIn mm = ⟨3, mm.act.round, mm.act.num, mm.src, 0, mm.act.id⟩ := if_pos h2
  rw [e1, giveS_voted, giveA_voted]
  have H2 := Lib.hid h2
  clear e1 h2
  obtain ⟨W1, hW⟩ : ∃ W1, W.alloc (.cells (mailA mm) 85) = W1 := ⟨_, rfl⟩
  have hb1 : Below W.heap.size W W1 := by rw [← hW]; exact (Below.refl _ _).alloc (Nat.le_refl _) _
  have hbx : Blk W1 W.heap.size 85 (mailA mm) := by rw [← hW]; exact Blk.new _ _ _
  have hM := k.below hb1
  have hB : Below b W W1 := hb1.mono hw
  have HVM : Hid (∀ g, h.vm.ownBlock = some g → g ≠ W.heap.size) := Lib.hid fun g e => by have := (k.own.lt g e).2; omega
  have HW := Lib.hid hw
  have HD := Lib.hid hd
  have HDD := Lib.hid hdd
  have HX := Lib.hid hx
  have HN := Lib.hid hn
  have HH7 := Lib.hid hH
  have HMM := Lib.hid hmm
  have hdH : (d : Int) < (H : Int) := by omega
  have hd0 : (0 : Int) ≤ (d : Int) := by omega
  clear k hb1 hw hd hdd hx hn hmm hH
  go_enter Try.func37, Try.ntmps37
  go_upto_region 1 with fail
  clear hW
  replace hM := hM.below (Below.refl _ W1).drew
  replace hbx := hbx.drew
  replace hB := hB.trans ((Below.refl _ W1).drew.mono (Nat.le_trans HW.out hB.size))
  refine wp_region_held_drew (S := fun W' => W'.cell? ⟨h.Hb, 0, none⟩ = some (.slice (some ⟨h.Ab, 0, none⟩) H h.cap) ∧ W'.cell? ⟨W.heap.size, 1, none⟩ = some (.int .i64 (d : Int)) ∧ W'.cell? ⟨h.Ab, d, none⟩ = some (.pointer (some ⟨x.B, 0, none⟩))) (by kernel_rfl) ?_ (fun hHeld => ?_)
  · exact ⟨hM.cell (j := 0) (by omega), by rw [hbx.cell]; exact congrArg (fun z => some (Value.int .i64 z)) HDD.out, by obtain ⟨cs, a1, a2⟩ := hM.all; rw [a1.cell]; exact a2 d x HX.out⟩
  refine tkH (v := ?_) 0 ⟨some 5, _, _, _, _, _⟩ rfl (Or.inl ⟨by rfl, ?_⟩) ?_
  rotate_left
  · intro w hSw; (try dsimp only at hSw); go_simp; try (with_reducible rfl)
  try simp only [Act.put, nz1, nz2, nz3]
  refine tkH (v := ?_) 1 ⟨some 6, _, _, _, _, _⟩ rfl (Or.inl ⟨by rfl, ?_⟩) ?_
  rotate_left
  · intro w hSw; (try dsimp only at hSw); go_simp; try (with_reducible rfl)
  try simp only [Act.put, nz1, nz2, nz3]
  refine tkH (v := ?_) 2 ⟨some 7, _, _, _, _, _⟩ rfl (Or.inl ⟨by rfl, ?_⟩) ?_
  rotate_left
  · intro w hSw; (try dsimp only at hSw); go_simp; try (with_reducible rfl)
  try simp only [Act.put, nz1, nz2, nz3]
  refine tkH (v := (.slice (some ⟨h.Ab, 0, none⟩) H h.cap)) 3 ⟨some 8, _, _, _, _, _⟩ rfl (yields_one (by rfl) 79 _ rfl ⟨h.Hb, 0, none⟩ rfl _ _ (fun W' hS => hS.1) Try.underlying79 rfl) ?_
  try simp only [Act.put, nz1, nz2, nz3]
  refine tkH (v := ?_) 4 ⟨some 9, _, _, _, _, _⟩ rfl (Or.inl ⟨by rfl, ?_⟩) ?_
  rotate_left
  · intro w hSw; (try dsimp only at hSw); go_simp; try (with_reducible rfl)
  try simp only [Act.put, nz1, nz2, nz3]
  refine tkH (v := (.int .i64 (d : Int))) 5 ⟨some 10, _, _, _, _, _⟩ rfl (yields_one (by rfl) 3 _ rfl ⟨W.heap.size, 1, none⟩ rfl _ _ (fun W' hS => hS.2.1) Try.underlying3 rfl) ?_
  try simp only [Act.put, nz1, nz2, nz3]
  refine tkH (v := (.pointer (some ⟨h.Ab, d, none⟩))) 6 ⟨some 11, _, _, _, _, _⟩ rfl (yields_indexH (by rfl) 79 _ _ rfl (.slice (some ⟨h.Ab, 0, none⟩) H h.cap) (.int .i64 (d : Int)) _ rfl rfl (fun w => index_ptrs h.Ab H h.cap d HD.out w)) ?_
  try simp only [Act.put, nz1, nz2, nz3]
  refine tkH (v := (.pointer (some ⟨x.B, 0, none⟩))) 7 ⟨some 12, _, _, _, _, _⟩ rfl (yields_one (by rfl) 62 _ rfl ⟨h.Ab, d, none⟩ rfl _ _ (fun W' hS => hS.2.2) Try.underlying62 rfl) ?_
  try simp only [Act.put, nz1, nz2, nz3]
  refine tkH (v := ?_) 8 ⟨some 4, _, _, _, _, _⟩ rfl (Or.inl ⟨by rfl, ?_⟩) ?_
  rotate_left
  · intro w hSw; (try dsimp only at hSw); go_simp; try (with_reducible rfl)
  try simp only [Act.put, nz1, nz2, nz3]
  refine wpAnyH_done (by kernel_rfl) ?_ _
  have ck : W1.drew.cell? ⟨W.heap.size, 2, none⟩ = some (.int .i64 mm.act.kind) := by rw [hbx.cell]; rfl
  rw [H2.out] at ck
  go_upto_region 3 with fail
  clear ck
  replace hM := hM.below (Below.refl _ _).drew
  replace hbx := hbx.drew
  replace hB := hB.trans ((Below.refl _ _).drew.mono (Nat.le_trans HW.out hB.size))
  refine wp_region_held_drew (S := fun W' => W'.cell? ⟨W.heap.size, 1, none⟩ = some (.int .i64 (d : Int)) ∧ W'.cell? ⟨W.heap.size, 3, none⟩ = some (.int .i64 mm.act.round) ∧ W'.cell? ⟨W.heap.size, 4, none⟩ = some (.int .i64 mm.act.num) ∧ W'.cell? ⟨W.heap.size, 0, none⟩ = some (.int .i64 mm.src) ∧ (Instr.loadAt 24 (.pointer (some ⟨W.heap.size, 6, none⟩))).run Try.prog W' = .ok (idv mm.act.id) W') (by kernel_rfl) ?_ (fun hHeld => ?_)
  · exact ⟨by rw [hbx.cell]; first | rfl | exact congrArg (fun z => some (Value.int .i64 z)) HDD.out, by rw [hbx.cell]; first | rfl | exact congrArg (fun z => some (Value.int .i64 z)) HDD.out, by rw [hbx.cell]; first | rfl | exact congrArg (fun z => some (Value.int .i64 z)) HDD.out, by rw [hbx.cell]; first | rfl | exact congrArg (fun z => some (Value.int .i64 z)) HDD.out, mail_id hbx HMM.out⟩
  refine tkH (v := ?_) 0 ⟨some 17, _, _, _, _, _⟩ rfl (Or.inl ⟨by rfl, ?_⟩) ?_
  rotate_left
  · intro w hSw; (try dsimp only at hSw); go_simp; try (with_reducible rfl)
  try simp only [Act.put, nz1, nz2, nz3]
  refine tkH (v := ?_) 1 ⟨some 18, _, _, _, _, _⟩ rfl (Or.inl ⟨by rfl, ?_⟩) ?_
  rotate_left
  · intro w hSw; (try dsimp only at hSw); go_simp; try (with_reducible rfl)
  try simp only [Act.put, nz1, nz2, nz3]
  refine tkH (v := (.int .i64 (d : Int))) 2 ⟨some 19, _, _, _, _, _⟩ rfl (yields_one (by rfl) 3 _ rfl ⟨W.heap.size, 1, none⟩ rfl _ _ (fun W' hS => hS.1) Try.underlying3 rfl) ?_
  try simp only [Act.put, nz1, nz2, nz3]
  refine tkH (v := ?_) 3 ⟨some 20, _, _, _, _, _⟩ rfl (Or.inl ⟨by rfl, ?_⟩) ?_
  rotate_left
  · intro w hSw; (try dsimp only at hSw); go_simp; try (with_reducible rfl)
  try simp only [Act.put, nz1, nz2, nz3]
  refine tkH (v := ?_) 4 ⟨some 21, _, _, _, _, _⟩ rfl (Or.inl ⟨by rfl, ?_⟩) ?_
  rotate_left
  · intro w hSw; (try dsimp only at hSw); go_simp; try (with_reducible rfl)
  try simp only [Act.put, nz1, nz2, nz3]
  refine tkH (v := ?_) 5 ⟨some 22, _, _, _, _, _⟩ rfl (Or.inl ⟨by rfl, ?_⟩) ?_
  rotate_left
  · intro w hSw; (try dsimp only at hSw); go_simp; try (with_reducible rfl)
  try simp only [Act.put, nz1, nz2, nz3]
  refine tkH (v := (.int .i64 mm.act.round)) 6 ⟨some 23, _, _, _, _, _⟩ rfl (yields_one (by rfl) 3 _ rfl ⟨W.heap.size, 3, none⟩ rfl _ _ (fun W' hS => hS.2.1) Try.underlying3 rfl) ?_
  try simp only [Act.put, nz1, nz2, nz3]
  refine tkH (v := ?_) 7 ⟨some 24, _, _, _, _, _⟩ rfl (Or.inl ⟨by rfl, ?_⟩) ?_
  rotate_left
  · intro w hSw; (try dsimp only at hSw); go_simp; try (with_reducible rfl)
  try simp only [Act.put, nz1, nz2, nz3]
  refine tkH (v := ?_) 8 ⟨some 25, _, _, _, _, _⟩ rfl (Or.inl ⟨by rfl, ?_⟩) ?_
  rotate_left
  · intro w hSw; (try dsimp only at hSw); go_simp; try (with_reducible rfl)
  try simp only [Act.put, nz1, nz2, nz3]
  refine tkH (v := (.int .i64 mm.act.num)) 9 ⟨some 26, _, _, _, _, _⟩ rfl (yields_one (by rfl) 3 _ rfl ⟨W.heap.size, 4, none⟩ rfl _ _ (fun W' hS => hS.2.2.1) Try.underlying3 rfl) ?_
  try simp only [Act.put, nz1, nz2, nz3]
  refine tkH (v := ?_) 10 ⟨some 27, _, _, _, _, _⟩ rfl (Or.inl ⟨by rfl, ?_⟩) ?_
  rotate_left
  · intro w hSw; (try dsimp only at hSw); go_simp; try (with_reducible rfl)
  try simp only [Act.put, nz1, nz2, nz3]
  refine tkH (v := (.int .i64 mm.src)) 11 ⟨some 28, _, _, _, _, _⟩ rfl (yields_one (by rfl) 3 _ rfl ⟨W.heap.size, 0, none⟩ rfl _ _ (fun W' hS => hS.2.2.2.1) Try.underlying3 rfl) ?_
  try simp only [Act.put, nz1, nz2, nz3]
  refine tkH (v := ?_) 12 ⟨some 29, _, _, _, _, _⟩ rfl (Or.inl ⟨by rfl, ?_⟩) ?_
  rotate_left
  · intro w hSw; (try dsimp only at hSw); go_simp; try (with_reducible rfl)
  try simp only [Act.put, nz1, nz2, nz3]
  refine tkH (v := ?_) 13 ⟨some 30, _, _, _, _, _⟩ rfl (Or.inl ⟨by rfl, ?_⟩) ?_
  rotate_left
  · intro w hSw; (try dsimp only at hSw); go_simp; try (with_reducible rfl)
  try simp only [Act.put, nz1, nz2, nz3]
  refine tkH (v := (idv mm.act.id)) 14 ⟨some 31, _, _, _, _, _⟩ rfl (yields_run (by rfl) 24 _ rfl (.pointer (some ⟨W.heap.size, 6, none⟩)) _ rfl (fun W' hS => hS.2.2.2.2)) ?_
  try simp only [Act.put, nz1, nz2, nz3]
  refine wpAnyH_ready (rs := [15]) (by kernel_rfl) (by simp) ?_
  refine (AllReadyH.cons (o := ⟨some 32, _, _, _, _, _⟩) rfl (fun K hK => ?_) AllReadyH.nil)
  (try rw [if_pos (by rfl)])
  go_simp
  refine (voted_any (hM.hall.at_ d x HX.out) mm.act.round mm.act.num mm.src HMM.out.act.round HMM.out.act.num HMM.out.src mm.act.id HMM.out.act.id HN.out).mono ?_
  rintro e Wv hdn
  obtain ⟨vv, kv', rfl, hov, hM2, hB2, hbk⟩ := hM.did (Nat.le_trans HW.out hB.size) HX.out hdn
  replace hbx := hbk _ _ _ hbx (by decide) (by decide)
  replace hB := hB.trans hB2
  clear hM hdn hB2 hbk
  have hM := hM2
  clear hM2
  try dsimp only
  refine hK.out _ _ (⟨by rw [hbx.cell]; first | rfl | exact congrArg (fun z => some (Value.int .i64 z)) HDD.out, by rw [hbx.cell]; first | rfl | exact congrArg (fun z => some (Value.int .i64 z)) HDD.out, by rw [hbx.cell]; first | rfl | exact congrArg (fun z => some (Value.int .i64 z)) HDD.out, by rw [hbx.cell]; first | rfl | exact congrArg (fun z => some (Value.int .i64 z)) HDD.out, mail_id hbx HMM.out⟩) (fun hHeld => ?_)
  clear hK K
  try simp only [Act.put, nz1, nz2, nz3]
  refine wpAnyH_ready (rs := [16]) (by kernel_rfl) (by simp) ?_
  refine (AllReadyH.cons (o := ⟨some 33, _, _, _, _, _⟩) rfl (fun K hK => ?_) AllReadyH.nil)
  (try rw [if_pos (by rfl)])
  go_simp
  refine (take_any hM (Nat.le_trans HW.out hB.size) d HD.out HH7.out _ _ _ hov).mono ?_
  rintro e Wt ⟨⟨vt, rfl⟩, hB2, vm', hM2, hT⟩
  replace hbx := hbx.eqAt (hT.block _ hbx.lt (blk_ne hbx hM.blk (by decide)) (blk_ne hbx hM.done (by decide)) (fun e => HVM.out _ e.symm rfl))
  replace hB := hB.trans hB2
  clear hM hB2 hT hov
  have hM := hM2
  clear hM2
  try dsimp only
  refine hK.out _ _ (⟨by rw [hbx.cell]; first | rfl | exact congrArg (fun z => some (Value.int .i64 z)) HDD.out, by rw [hbx.cell]; first | rfl | exact congrArg (fun z => some (Value.int .i64 z)) HDD.out, by rw [hbx.cell]; first | rfl | exact congrArg (fun z => some (Value.int .i64 z)) HDD.out, by rw [hbx.cell]; first | rfl | exact congrArg (fun z => some (Value.int .i64 z)) HDD.out, mail_id hbx HMM.out⟩) (fun hHeld => ?_)
  clear hK K
  try simp only [Act.put, nz1, nz2, nz3]
  refine wpAnyH_done (by kernel_rfl) ?_ _
  go_wp2_with fail
  go_end0
  exact ⟨⟨_, rfl⟩, hB, kv', vm', hM⟩
set_option maxRecDepth 100000 in
set_option maxHeartbeats 8000000 in
theorem come_offer {b : Nat} {W : World} {H : Nat} {h : HM} (k : HallM b W H h) (hw : b ≤ W.heap.size) (hH : H ≤ 7) (mm : MailS) (hmm : MailOk mm) (d : Nat) (hd : d < H) (hdd : mm.dst = (d : Int)) (x : RB) (hx : h.l[d]? = some x) (hn : x.n + 202 < maxLen) (h2 : mm.act.kind ≠ 2) : Calls Try.prog 37 #[.pointer (some ⟨h.Hb, 0, none⟩), .agg (mailA mm)] W fun e w' => (∃ u, e = .returned u) ∧ Below b W w' ∧ ∃ kv' vm', HallM b w' H (stepH H h d x kv' vm' (giveS x.s (mailIn mm)) (giveA x.s (mailIn mm))) := by
  have e1 : mailIn mm = ⟨2, mm.act.round, 0, 0, mm.act.valid, mm.act.id⟩ := if_neg h2
  rw [e1, giveS_offered, giveA_offered]
  have h2b : (mm.act.kind == 2) = false := by rw [beq_eq_false_iff_ne]; exact h2
  clear e1 h2
  obtain ⟨W1, hW⟩ : ∃ W1, W.alloc (.cells (mailA mm) 85) = W1 := ⟨_, rfl⟩
  have hb1 : Below W.heap.size W W1 := by rw [← hW]; exact (Below.refl _ _).alloc (Nat.le_refl _) _
  have hbx : Blk W1 W.heap.size 85 (mailA mm) := by rw [← hW]; exact Blk.new _ _ _
  have hM := k.below hb1
  have hB : Below b W W1 := hb1.mono hw
  have HVM : Hid (∀ g, h.vm.ownBlock = some g → g ≠ W.heap.size) := Lib.hid fun g e => by have := (k.own.lt g e).2; omega
  have HW := Lib.hid hw
  have HD := Lib.hid hd
  have HDD := Lib.hid hdd
  have HX := Lib.hid hx
  have HN := Lib.hid hn
  have HH7 := Lib.hid hH
  have HMM := Lib.hid hmm
  have hdH : (d : Int) < (H : Int) := by omega
  have hd0 : (0 : Int) ≤ (d : Int) := by omega
  clear k hb1 hw hd hdd hx hn hmm hH
  go_enter Try.func37, Try.ntmps37
  go_upto_region 1 with fail
  clear hW
  replace hM := hM.below (Below.refl _ W1).drew
  replace hbx := hbx.drew
  replace hB := hB.trans ((Below.refl _ W1).drew.mono (Nat.le_trans HW.out hB.size))
  refine wp_region_held_drew (S := fun W' => W'.cell? ⟨h.Hb, 0, none⟩ = some (.slice (some ⟨h.Ab, 0, none⟩) H h.cap) ∧ W'.cell? ⟨W.heap.size, 1, none⟩ = some (.int .i64 (d : Int)) ∧ W'.cell? ⟨h.Ab, d, none⟩ = some (.pointer (some ⟨x.B, 0, none⟩))) (by kernel_rfl) ?_ (fun hHeld => ?_)
  · exact ⟨hM.cell (j := 0) (by omega), by rw [hbx.cell]; exact congrArg (fun z => some (Value.int .i64 z)) HDD.out, by obtain ⟨cs, a1, a2⟩ := hM.all; rw [a1.cell]; exact a2 d x HX.out⟩
  refine tkH (v := ?_) 0 ⟨some 5, _, _, _, _, _⟩ rfl (Or.inl ⟨by rfl, ?_⟩) ?_
  rotate_left
  · intro w hSw; (try dsimp only at hSw); go_simp; try (with_reducible rfl)
  try simp only [Act.put, nz1, nz2, nz3]
  refine tkH (v := ?_) 1 ⟨some 6, _, _, _, _, _⟩ rfl (Or.inl ⟨by rfl, ?_⟩) ?_
  rotate_left
  · intro w hSw; (try dsimp only at hSw); go_simp; try (with_reducible rfl)
  try simp only [Act.put, nz1, nz2, nz3]
  refine tkH (v := ?_) 2 ⟨some 7, _, _, _, _, _⟩ rfl (Or.inl ⟨by rfl, ?_⟩) ?_
  rotate_left
  · intro w hSw; (try dsimp only at hSw); go_simp; try (with_reducible rfl)
  try simp only [Act.put, nz1, nz2, nz3]
  refine tkH (v := (.slice (some ⟨h.Ab, 0, none⟩) H h.cap)) 3 ⟨some 8, _, _, _, _, _⟩ rfl (yields_one (by rfl) 79 _ rfl ⟨h.Hb, 0, none⟩ rfl _ _ (fun W' hS => hS.1) Try.underlying79 rfl) ?_
  try simp only [Act.put, nz1, nz2, nz3]
  refine tkH (v := ?_) 4 ⟨some 9, _, _, _, _, _⟩ rfl (Or.inl ⟨by rfl, ?_⟩) ?_
  rotate_left
  · intro w hSw; (try dsimp only at hSw); go_simp; try (with_reducible rfl)
  try simp only [Act.put, nz1, nz2, nz3]
  refine tkH (v := (.int .i64 (d : Int))) 5 ⟨some 10, _, _, _, _, _⟩ rfl (yields_one (by rfl) 3 _ rfl ⟨W.heap.size, 1, none⟩ rfl _ _ (fun W' hS => hS.2.1) Try.underlying3 rfl) ?_
  try simp only [Act.put, nz1, nz2, nz3]
  refine tkH (v := (.pointer (some ⟨h.Ab, d, none⟩))) 6 ⟨some 11, _, _, _, _, _⟩ rfl (yields_indexH (by rfl) 79 _ _ rfl (.slice (some ⟨h.Ab, 0, none⟩) H h.cap) (.int .i64 (d : Int)) _ rfl rfl (fun w => index_ptrs h.Ab H h.cap d HD.out w)) ?_
  try simp only [Act.put, nz1, nz2, nz3]
  refine tkH (v := (.pointer (some ⟨x.B, 0, none⟩))) 7 ⟨some 12, _, _, _, _, _⟩ rfl (yields_one (by rfl) 62 _ rfl ⟨h.Ab, d, none⟩ rfl _ _ (fun W' hS => hS.2.2) Try.underlying62 rfl) ?_
  try simp only [Act.put, nz1, nz2, nz3]
  refine tkH (v := ?_) 8 ⟨some 4, _, _, _, _, _⟩ rfl (Or.inl ⟨by rfl, ?_⟩) ?_
  rotate_left
  · intro w hSw; (try dsimp only at hSw); go_simp; try (with_reducible rfl)
  try simp only [Act.put, nz1, nz2, nz3]
  refine wpAnyH_done (by kernel_rfl) ?_ _
  have ck : W1.drew.cell? ⟨W.heap.size, 2, none⟩ = some (.int .i64 mm.act.kind) := by rw [hbx.cell]; rfl
  skip
  go_upto_region 4 with fail
  clear ck
  replace hM := hM.below (Below.refl _ _).drew
  replace hbx := hbx.drew
  replace hB := hB.trans ((Below.refl _ _).drew.mono (Nat.le_trans HW.out hB.size))
  refine wp_region_held_drew (S := fun W' => W'.cell? ⟨W.heap.size, 1, none⟩ = some (.int .i64 (d : Int)) ∧ W'.cell? ⟨W.heap.size, 3, none⟩ = some (.int .i64 mm.act.round) ∧ W'.cell? ⟨W.heap.size, 5, none⟩ = some (.int .i64 mm.act.valid) ∧ (Instr.loadAt 24 (.pointer (some ⟨W.heap.size, 6, none⟩))).run Try.prog W' = .ok (idv mm.act.id) W') (by kernel_rfl) ?_ (fun hHeld => ?_)
  · exact ⟨by rw [hbx.cell]; first | rfl | exact congrArg (fun z => some (Value.int .i64 z)) HDD.out, by rw [hbx.cell]; first | rfl | exact congrArg (fun z => some (Value.int .i64 z)) HDD.out, by rw [hbx.cell]; first | rfl | exact congrArg (fun z => some (Value.int .i64 z)) HDD.out, mail_id hbx HMM.out⟩
  refine tkH (v := ?_) 0 ⟨some 34, _, _, _, _, _⟩ rfl (Or.inl ⟨by rfl, ?_⟩) ?_
  rotate_left
  · intro w hSw; (try dsimp only at hSw); go_simp; try (with_reducible rfl)
  try simp only [Act.put, nz1, nz2, nz3]
  refine tkH (v := ?_) 1 ⟨some 35, _, _, _, _, _⟩ rfl (Or.inl ⟨by rfl, ?_⟩) ?_
  rotate_left
  · intro w hSw; (try dsimp only at hSw); go_simp; try (with_reducible rfl)
  try simp only [Act.put, nz1, nz2, nz3]
  refine tkH (v := (.int .i64 (d : Int))) 2 ⟨some 36, _, _, _, _, _⟩ rfl (yields_one (by rfl) 3 _ rfl ⟨W.heap.size, 1, none⟩ rfl _ _ (fun W' hS => hS.1) Try.underlying3 rfl) ?_
  try simp only [Act.put, nz1, nz2, nz3]
  refine tkH (v := ?_) 3 ⟨some 37, _, _, _, _, _⟩ rfl (Or.inl ⟨by rfl, ?_⟩) ?_
  rotate_left
  · intro w hSw; (try dsimp only at hSw); go_simp; try (with_reducible rfl)
  try simp only [Act.put, nz1, nz2, nz3]
  refine tkH (v := ?_) 4 ⟨some 38, _, _, _, _, _⟩ rfl (Or.inl ⟨by rfl, ?_⟩) ?_
  rotate_left
  · intro w hSw; (try dsimp only at hSw); go_simp; try (with_reducible rfl)
  try simp only [Act.put, nz1, nz2, nz3]
  refine tkH (v := ?_) 5 ⟨some 39, _, _, _, _, _⟩ rfl (Or.inl ⟨by rfl, ?_⟩) ?_
  rotate_left
  · intro w hSw; (try dsimp only at hSw); go_simp; try (with_reducible rfl)
  try simp only [Act.put, nz1, nz2, nz3]
  refine tkH (v := (.int .i64 mm.act.round)) 6 ⟨some 40, _, _, _, _, _⟩ rfl (yields_one (by rfl) 3 _ rfl ⟨W.heap.size, 3, none⟩ rfl _ _ (fun W' hS => hS.2.1) Try.underlying3 rfl) ?_
  try simp only [Act.put, nz1, nz2, nz3]
  refine tkH (v := ?_) 7 ⟨some 41, _, _, _, _, _⟩ rfl (Or.inl ⟨by rfl, ?_⟩) ?_
  rotate_left
  · intro w hSw; (try dsimp only at hSw); go_simp; try (with_reducible rfl)
  try simp only [Act.put, nz1, nz2, nz3]
  refine tkH (v := ?_) 8 ⟨some 42, _, _, _, _, _⟩ rfl (Or.inl ⟨by rfl, ?_⟩) ?_
  rotate_left
  · intro w hSw; (try dsimp only at hSw); go_simp; try (with_reducible rfl)
  try simp only [Act.put, nz1, nz2, nz3]
  refine tkH (v := (.int .i64 mm.act.valid)) 9 ⟨some 43, _, _, _, _, _⟩ rfl (yields_one (by rfl) 3 _ rfl ⟨W.heap.size, 5, none⟩ rfl _ _ (fun W' hS => hS.2.2.1) Try.underlying3 rfl) ?_
  try simp only [Act.put, nz1, nz2, nz3]
  refine tkH (v := ?_) 10 ⟨some 44, _, _, _, _, _⟩ rfl (Or.inl ⟨by rfl, ?_⟩) ?_
  rotate_left
  · intro w hSw; (try dsimp only at hSw); go_simp; try (with_reducible rfl)
  try simp only [Act.put, nz1, nz2, nz3]
  refine tkH (v := ?_) 11 ⟨some 45, _, _, _, _, _⟩ rfl (Or.inl ⟨by rfl, ?_⟩) ?_
  rotate_left
  · intro w hSw; (try dsimp only at hSw); go_simp; try (with_reducible rfl)
  try simp only [Act.put, nz1, nz2, nz3]
  refine tkH (v := (idv mm.act.id)) 12 ⟨some 46, _, _, _, _, _⟩ rfl (yields_run (by rfl) 24 _ rfl (.pointer (some ⟨W.heap.size, 6, none⟩)) _ rfl (fun W' hS => hS.2.2.2)) ?_
  try simp only [Act.put, nz1, nz2, nz3]
  refine wpAnyH_ready (rs := [13]) (by kernel_rfl) (by simp) ?_
  refine (AllReadyH.cons (o := ⟨some 47, _, _, _, _, _⟩) rfl (fun K hK => ?_) AllReadyH.nil)
  (try rw [if_pos (by rfl)])
  go_simp
  refine (offered_any (hM.hall.at_ d x HX.out) mm.act.round mm.act.valid mm.act.id HMM.out.act.id HN.out).mono ?_
  rintro e Wv hdn
  obtain ⟨vv, kv', rfl, hov, hM2, hB2, hbk⟩ := hM.did (Nat.le_trans HW.out hB.size) HX.out hdn
  replace hbx := hbk _ _ _ hbx (by decide) (by decide)
  replace hB := hB.trans hB2
  clear hM hdn hB2 hbk
  have hM := hM2
  clear hM2
  try dsimp only
  refine hK.out _ _ (⟨by rw [hbx.cell]; first | rfl | exact congrArg (fun z => some (Value.int .i64 z)) HDD.out, by rw [hbx.cell]; first | rfl | exact congrArg (fun z => some (Value.int .i64 z)) HDD.out, by rw [hbx.cell]; first | rfl | exact congrArg (fun z => some (Value.int .i64 z)) HDD.out, mail_id hbx HMM.out⟩) (fun hHeld => ?_)
  clear hK K
  try simp only [Act.put, nz1, nz2, nz3]
  refine wpAnyH_ready (rs := [14]) (by kernel_rfl) (by simp) ?_
  refine (AllReadyH.cons (o := ⟨some 48, _, _, _, _, _⟩) rfl (fun K hK => ?_) AllReadyH.nil)
  (try rw [if_pos (by rfl)])
  go_simp
  refine (take_any hM (Nat.le_trans HW.out hB.size) d HD.out HH7.out _ _ _ hov).mono ?_
  rintro e Wt ⟨⟨vt, rfl⟩, hB2, vm', hM2, hT⟩
  replace hbx := hbx.eqAt (hT.block _ hbx.lt (blk_ne hbx hM.blk (by decide)) (blk_ne hbx hM.done (by decide)) (fun e => HVM.out _ e.symm rfl))
  replace hB := hB.trans hB2
  clear hM hB2 hT hov
  have hM := hM2
  clear hM2
  try dsimp only
  refine hK.out _ _ (⟨by rw [hbx.cell]; first | rfl | exact congrArg (fun z => some (Value.int .i64 z)) HDD.out, by rw [hbx.cell]; first | rfl | exact congrArg (fun z => some (Value.int .i64 z)) HDD.out, by rw [hbx.cell]; first | rfl | exact congrArg (fun z => some (Value.int .i64 z)) HDD.out, mail_id hbx HMM.out⟩) (fun hHeld => ?_)
  clear hK K
  try simp only [Act.put, nz1, nz2, nz3]
  refine wpAnyH_done (by kernel_rfl) ?_ _
  go_wp2_with fail
  go_end0
  exact ⟨⟨_, rfl⟩, hB, kv', vm', hM⟩
theorem come_any {b : Nat} {W : World} {H : Nat} {h : HM} (k : HallM b W H h) (hw : b ≤ W.heap.size) (hH : H ≤ 7) (mm : MailS) (hmm : MailOk mm) (d : Nat) (hd : d < H) (hdd : mm.dst = (d : Int)) (x : RB) (hx : h.l[d]? = some x) (hn : x.n + 202 < maxLen) : Calls Try.prog 37 #[.pointer (some ⟨h.Hb, 0, none⟩), .agg (mailA mm)] W fun e w' => (∃ u, e = .returned u) ∧ Below b W w' ∧ ∃ kv' vm', HallM b w' H (stepH H h d x kv' vm' (giveS x.s (mailIn mm)) (giveA x.s (mailIn mm))) := by
  by_cases h2 : mm.act.kind = 2
  · exact come_vote k hw hH mm hmm d hd hdd x hx hn h2
  · exact come_offer k hw hH mm hmm d hd hdd x hx hn h2
end Go.Proofs.Ytclhfokflagopaa
