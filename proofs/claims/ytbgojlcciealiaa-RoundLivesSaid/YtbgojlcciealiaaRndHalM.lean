/-
  Several ways to agreement, their mails and what they are done with, in memory. No condition.
-/
import Derived.Test.YtbgojlcciealiaaRndHall
import Derived.Test.YtbgojlcciealiaaRndMail
namespace Go.Proofs.Ytbgojlcciealiaa
open Go Go.RowKit Go.Maps

def haF (va vm vd : Value) (H : Nat) (i : Nat) : Value := [va, .int .i64 (H : Int), vm, vd].getD i undef
def dsF (ds : List (List UInt8)) (i : Nat) : Value := (idsC ds).getD i undef
theorem ha_put (va vm vd v : Value) (H : Nat) : arr 4 (putW (haF va vm vd H) 2 [v]) = arr 4 (haF va v vd H) := by
  refine Array.ext_getElem? fun i => ?_
  rw [arr_get, arr_get]
  by_cases hi : i < 4
  · rw [if_pos hi, if_pos hi]
    have : i = 0 ∨ i = 1 ∨ i = 2 ∨ i = 3 := by omega
    rcases this with rfl | rfl | rfl | rfl <;> rfl
  · rw [if_neg hi, if_neg hi]
theorem ids_set {ds : List (List UInt8)} (hok : ∀ x ∈ ds, IdOk x) (i : Nat) {id : List UInt8} (hid : IdOk id) : ∀ x ∈ ds.set i id, IdOk x := fun x hx => by
  rcases List.mem_or_eq_of_mem_set hx with h | rfl
  · exact hok x h
  · exact hid
theorem ds_put {ds : List (List UInt8)} (hok : ∀ x ∈ ds, IdOk x) {i n : Nat} (hn : ds.length = n) (hi : i < n) {id : List UInt8} (hid : IdOk id) : arr (32 * n) (putW (dsF ds) (i * 32) (idL id)) = arr (32 * n) (dsF (ds.set i id)) := by
  subst hn
  refine Array.ext_getElem? fun j => ?_
  rw [arr_get, arr_get]
  by_cases hj : j < 32 * ds.length
  · rw [if_pos hj, if_pos hj]
    have hq : j / 32 < ds.length := by omega
    have hr : j % 32 < 32 := Nat.mod_lt _ (by omega)
    have hd : 32 * (j / 32) + j % 32 = j := by omega
    have h32 : (idL id).length = 32 := idL_length hid
    have hset := ids_set hok i hid
    have hget : (ds.set i id)[j / 32]? = some (if i = j / 32 then id else ds[j / 32]) := by
      rw [List.getElem?_set]
      by_cases he : i = j / 32
      · rw [if_pos he, if_pos hi, if_pos he]
      · rw [if_neg he, if_neg he, List.getElem?_eq_getElem hq]
    have h2 := idsC_get hset hget hr
    have h1 := idsC_get hok (List.getElem?_eq_getElem hq) hr
    rw [hd] at h1 h2
    unfold putW dsF
    rw [List.getD_eq_getElem?_getD (l := idsC (ds.set i id)), h2]
    by_cases he : i = j / 32
    · rw [if_pos he, if_pos (by rw [h32]; omega), List.getD_eq_getElem?_getD, show j - i * 32 = j % 32 by omega]
    · rw [if_neg he, if_neg (by rw [h32]; omega), List.getD_eq_getElem?_getD, h1]
  · rw [if_neg hj, if_neg hj]
/-- Where it lies, and what it is. -/
structure HM where
  Hb : Nat
  Ab : Nat
  Db : Nat
  cap : Nat
  vm : Value
  l : List RB
  ms : List MailS
  ds : List (List UInt8)
def HM.va (h : HM) (H : Nat) : Value := .slice (some ⟨h.Ab, 0, none⟩) H h.cap
def HM.vd (h : HM) (H : Nat) : Value := .slice (some ⟨h.Db, 0, none⟩) H H
structure HallM (b : Nat) (W : World) (H : Nat) (h : HM) : Prop where
  hall : HallAt b W h.l
  len : h.l.length = H
  blk : Blk W h.Hb 82 (arr 4 (haF (h.va H) h.vm (h.vd H) H))
  all : ∃ cs, Blk W h.Ab 62 cs ∧ ∀ (i : Nat) (x : RB), h.l[i]? = some x → cs[i]? = some (.pointer (some ⟨x.B, 0, none⟩))
  own : W.ownsRow b 85 38 h.vm h.ms.length (mailsC h.ms)
  mok : ∀ m ∈ h.ms, MailOk m
  few : h.ms.length ≤ 2000
  done : Blk W h.Db 24 (arr (32 * H) (dsF h.ds))
  dlen : h.ds.length = H
  dok : ∀ x ∈ h.ds, IdOk x
  outH : Out h.l h.Hb
  outA : Out h.l h.Ab
  outD : Out h.l h.Db
  outM : ∀ g, h.vm.ownBlock = some g → Out h.l g
  low : b ≤ h.Hb ∧ b ≤ h.Ab ∧ b ≤ h.Db
theorem Blk.eqAt {W W' : World} {g t : Nat} {cs : Array Value} (h : Blk W g t cs) (e : W'.heap[g]? = W.heap[g]?) : Blk W' g t cs := by
  unfold Blk at h ⊢
  rw [e]
  exact h
theorem row_at {W : World} {b e k n : Nat} {v : Value} {xs : List Value} (h : W.ownsRow b e k v n xs) {g : Nat} (hg : v.ownBlock = some g) : ∃ cs, Blk W g e cs ∧ b ≤ g := by
  rcases h.2 with ⟨rfl, _⟩ | ⟨g', cap, cur, rfl, hb, hgg, _⟩
  · cases hg
  · have e' : g' = g := Option.some.inj hg
    subst e'
    exact ⟨cur, hgg, hb⟩
theorem row_eq {W W' : World} {b e k n : Nat} {v : Value} {xs : List Value} (h : W.ownsRow b e k v n xs) (hk : ∀ g, v.ownBlock = some g → W'.heap[g]? = W.heap[g]?) : W'.ownsRow b e k v n xs := by
  refine ⟨h.1, ?_⟩
  rcases h.2 with hn | ⟨g, cap, cur, hv, hb, hgg, rest⟩
  · exact .inl hn
  · refine .inr ⟨g, cap, cur, hv, hb, ?_, rest⟩
    rw [hk g (by rw [hv]; rfl)]
    exact hgg
theorem HallM.below {b : Nat} {W W' : World} {H : Nat} {h : HM} (k : HallM b W H h) (hb : Below W.heap.size W W') : HallM b W' H h :=
  ⟨k.hall.below hb, k.len, k.blk.below hb k.blk.lt, by
    obtain ⟨cs, h1, h2⟩ := k.all
    exact ⟨cs, h1.below hb h1.lt, h2⟩, rowV_kept k.own hb, k.mok, k.few, k.done.below hb k.done.lt, k.dlen, k.dok, k.outH, k.outA, k.outD, k.outM, k.low⟩
/-- A mail more. -/
theorem HallM.mail {b : Nat} {W W5 W6 : World} {H : Nat} {h : HM} (k : HallM b W H h) {v5 : Value} {m : MailS} (hm : MailOk m) (hlt : h.ms.length < 2000) (hg5 : W.grownBy W5 h.vm.ownBlock)
    (how5 : W5.ownsRow b 85 38 v5 (h.ms.length + 1) (mailsC h.ms ++ mailsC [m])) (hor : v5.ownBlock = h.vm.ownBlock ∨ ∃ g, v5.ownBlock = some g ∧ W.heap.size ≤ g)
    (hb6 : Blk W6 h.Hb 82 (arr 4 (haF (h.va H) v5 (h.vd H) H))) (hg6 : W5.grownBy W6 (some h.Hb)) (hw : b ≤ W.heap.size) : HallM b W6 H { h with vm := v5, ms := h.ms ++ [m] } ∧ Below b W W6 := by
  have hne : ∀ {g t : Nat} {cs : Array Value}, Blk W g t cs → t ≠ 85 → some g ≠ h.vm.ownBlock := fun {g t cs} hb ht e => by
    obtain ⟨ds, h1, _⟩ := row_at k.own e.symm
    exact blk_ne hb h1 ht rfl
  have hkeep : ∀ g, g < W.heap.size → some g ≠ h.vm.ownBlock → g ≠ h.Hb → W6.heap[g]? = W.heap[g]? := fun g hlt h1 h2 => (hg6.block g (Nat.lt_of_lt_of_le hlt hg5.size) fun e => h2 (Option.some.inj e)).trans (hg5.block g hlt h1)
  obtain ⟨cs, a1, a2⟩ := k.all
  have hHA : h.Ab ≠ h.Hb := blk_ne a1 k.blk (by decide)
  have hHD : h.Db ≠ h.Hb := blk_ne k.done k.blk (by decide)
  have hv5H : v5.ownBlock ≠ some h.Hb := by
    rcases hor with e | ⟨g, e, hg⟩
    · rw [e]
      exact (hne k.blk (by decide)).symm
    · rw [e]
      intro e2
      have := k.blk.lt
      have := Option.some.inj e2
      omega
  refine ⟨⟨k.hall.keep fun i x hx g hg => hkeep g ((k.hall.at_ i x hx).lt hg) (fun e => k.outM g e.symm i x hx hg) (fun e => k.outH i x hx (e ▸ hg)), k.len, hb6, ⟨cs, a1.eqAt (hkeep _ a1.lt (hne a1 (by decide)) hHA), a2⟩, ?_, fun x hx => ?_, ?_, k.done.eqAt (hkeep _ k.done.lt (hne k.done (by decide)) hHD), k.dlen, k.dok, k.outH, k.outA, k.outD, fun g hg => ?_, k.low⟩, ?_⟩
  · show W6.ownsRow b _ 38 v5 (h.ms ++ [m]).length (mailsC (h.ms ++ [m]))
    rw [List.length_append, List.length_singleton, mailsC_append]
    exact row_eq how5 fun g hg => hg6.block g (how5.lt g hg).2 fun e => hv5H (hg.trans (e ▸ rfl))
  · rcases List.mem_append.1 hx with hx | hx
    · exact k.mok x hx
    · rw [List.mem_singleton] at hx
      rw [hx]
      exact hm
  · show (h.ms ++ [m]).length ≤ 2000
    rw [List.length_append, List.length_singleton]
    omega
  · rcases hor with e | ⟨g', e, hg'⟩
    · exact k.outM g (e ▸ hg)
    · have hg2 : v5.ownBlock = some g := hg
      rw [e] at hg2
      have := Option.some.inj hg2
      exact k.hall.lt (by omega)
  · refine ⟨hg6.os.trans hg5.os, hg6.tape.trans hg5.tape, hg6.output.trans hg5.output, Nat.le_trans hg5.size hg6.size, fun g hg => hkeep g (by omega) (fun e => ?_) (fun e => ?_)⟩
    · obtain ⟨_, _, h2⟩ := row_at k.own e.symm
      omega
    · have := k.low.1
      omega
theorem HallM.mailB {b : Nat} {W W5 W6 : World} {H : Nat} {h : HM} (k : HallM b W H h) (hg5 : W.grownBy W5 h.vm.ownBlock) (hg6 : W5.grownBy W6 (some h.Hb)) {g t : Nat} {cs : Array Value} (hb : Blk W g t cs) (h1 : t ≠ 85) (h2 : t ≠ 82) : W6.heap[g]? = W.heap[g]? :=
  (hg6.block g (Nat.lt_of_lt_of_le hb.lt hg5.size) fun e => blk_ne hb k.blk h2 (Option.some.inj e)).trans (hg5.block g hb.lt fun e => by
    obtain ⟨ds, h3, _⟩ := row_at k.own e.symm
    exact blk_ne hb h3 h1 rfl)
/-- One is done. -/
theorem HallM.ends {b : Nat} {W W' : World} {H : Nat} {h : HM} (k : HallM b W H h) {i : Nat} {id : List UInt8} (hid : IdOk id) (hb : Blk W' h.Db 24 (arr (32 * H) (dsF (h.ds.set i id)))) (hg : W.grownBy W' (some h.Db)) : HallM b W' H { h with ds := h.ds.set i id } := by
  have hkeep : ∀ g, g < W.heap.size → g ≠ h.Db → W'.heap[g]? = W.heap[g]? := fun g hlt h1 => hg.block g hlt fun e => h1 (Option.some.inj e)
  obtain ⟨cs, a1, a2⟩ := k.all
  have hAD : h.Ab ≠ h.Db := blk_ne a1 k.done (by decide)
  have hHD : h.Hb ≠ h.Db := blk_ne k.blk k.done (by decide)
  refine ⟨k.hall.keep fun j x hx g hg => hkeep g ((k.hall.at_ j x hx).lt hg) (fun e => k.outD j x hx (e ▸ hg)), k.len, k.blk.eqAt (hkeep _ k.blk.lt hHD), ⟨cs, a1.eqAt (hkeep _ a1.lt hAD), a2⟩, row_eq k.own fun g hg => ?_, k.mok, k.few, hb, ?_, ids_set k.dok i hid, k.outH, k.outA, k.outD, k.outM, k.low⟩
  · obtain ⟨ds, h1, _⟩ := row_at k.own hg
    exact hkeep g h1.lt (blk_ne h1 k.done (by decide))
  · show (h.ds.set i id).length = H
    rw [List.length_set]
    exact k.dlen
/-- What is written on the way: the hall's own blocks, and new ones. -/
structure Oth (W W' : World) (h : HM) (vm' : Value) : Prop where
  size : W.heap.size ≤ W'.heap.size
  block : ∀ g, g < W.heap.size → g ≠ h.Hb → g ≠ h.Db → some g ≠ h.vm.ownBlock → W'.heap[g]? = W.heap[g]?
  row : vm'.ownBlock = h.vm.ownBlock ∨ ∃ g, vm'.ownBlock = some g ∧ W.heap.size ≤ g
theorem Oth.refl (W : World) (h : HM) : Oth W W h h.vm := ⟨Nat.le_refl _, fun _ _ _ _ _ => rfl, .inl rfl⟩
theorem Oth.below {W W1 W2 : World} {h : HM} {vm : Value} (k : Oth W W1 h vm) (hb : Below W1.heap.size W1 W2) : Oth W W2 h vm := ⟨Nat.le_trans k.size hb.size, fun g h0 h1 h2 h3 => (hb.block g (Nat.lt_of_lt_of_le h0 k.size)).trans (k.block g h0 h1 h2 h3), k.row⟩
theorem Oth.ends {W W1 W2 : World} {h : HM} {vm : Value} (k : Oth W W1 h vm) (hg : W1.grownBy W2 (some h.Db)) : Oth W W2 h vm := ⟨Nat.le_trans k.size hg.size, fun g h0 h1 h2 h3 => (hg.block g (Nat.lt_of_lt_of_le h0 k.size) fun e => h2 (Option.some.inj e)).trans (k.block g h0 h1 h2 h3), k.row⟩
theorem Oth.mail {W W1 W5 W6 : World} {h : HM} {vm v5 : Value} (k : Oth W W1 h vm) (hg5 : W1.grownBy W5 vm.ownBlock) (hg6 : W5.grownBy W6 (some h.Hb)) (hor : v5.ownBlock = vm.ownBlock ∨ ∃ g, v5.ownBlock = some g ∧ W1.heap.size ≤ g) : Oth W W6 h v5 := by
  refine ⟨Nat.le_trans k.size (Nat.le_trans hg5.size hg6.size), fun g h0 h1 h2 h3 => ?_, ?_⟩
  · have hlt := Nat.lt_of_lt_of_le h0 k.size
    refine (hg6.block g (Nat.lt_of_lt_of_le hlt hg5.size) fun e => h1 (Option.some.inj e)).trans ((hg5.block g hlt fun e => ?_).trans (k.block g h0 h1 h2 h3))
    rcases k.row with hr | ⟨g', hr, hg'⟩
    · exact h3 (hr ▸ e)
    · rw [hr] at e
      have := Option.some.inj e
      omega
  · rcases hor with e | ⟨g', e, hg'⟩
    · rw [e]
      exact k.row
    · exact .inr ⟨g', e, Nat.le_trans k.size hg'⟩
/-- One of them does something. -/
theorem HallM.one {b : Nat} {W W' : World} {H : Nat} {h : HM} (k : HallM b W H h) (hw : b ≤ W.heap.size) {i : Nat} {x : RB} (hi : h.l[i]? = some x) {n' : Nat} {kv' : Value} {s' : RdS} (hr : RoundAt W' x.B x.C x.M n' kv' s') (hc : Chg W W' x.B x.M x.kv kv') :
    HallM b W' H { h with l := h.l.set i ⟨x.B, x.C, x.M, n', kv', s'⟩ } ∧ Below b W W' := by
  obtain ⟨q1, q2, q3⟩ := k.hall.chg hw hi hr hc
  obtain ⟨cs, a1, a2⟩ := k.all
  refine ⟨⟨q1, ?_, k.blk.eqAt (q2.block _ k.blk.lt k.outH), ⟨cs, a1.eqAt (q2.block _ a1.lt k.outA), fun j y hy => ?_⟩, row_eq k.own fun g hg => ?_, k.mok, k.few, k.done.eqAt (q2.block _ k.done.lt k.outD), k.dlen, k.dok, q3 _ k.blk.lt k.outH, q3 _ a1.lt k.outA, q3 _ k.done.lt k.outD, fun g hg => ?_, k.low⟩, q2.os, q2.tape, q2.output, q2.size, fun g hg => q2.block g (by omega) fun j y hy hh => ?_⟩
  · show (h.l.set i _).length = H
    rw [List.length_set]
    exact k.len
  · rcases set_get hy with ⟨rfl, rfl⟩ | ⟨_, hy⟩
    · exact a2 j x hi
    · exact a2 j y hy
  · obtain ⟨ds, h1, _⟩ := row_at k.own hg
    exact q2.block g h1.lt (k.outM g hg)
  · obtain ⟨ds, h1, _⟩ := row_at k.own hg
    exact q3 g h1.lt (k.outM g hg)
  · have := k.hall.low j y hy g hh
    omega
/-- What is sent to the others. -/
def sendM (_H i : Nat) (a : ActS) (ms : List MailS) (n : Nat) : List MailS := (List.range n).foldl (fun ms q => if q ≠ i ∧ ms.length < 2000 then ms ++ [⟨(i : Int), (q : Int), a⟩] else ms) ms
def takeM1 (H i : Nat) (ms : List MailS) (a : ActS) : List MailS := if a.kind = 1 ∨ a.kind = 2 then sendM H i a ms H else ms
def takeD1 (i : Nat) (ds : List (List UInt8)) (a : ActS) : List (List UInt8) := if a.kind = 4 then ds.set i a.id else ds
theorem sendM_succ (H i : Nat) (a : ActS) (ms : List MailS) (n : Nat) : sendM H i a ms (n + 1) = (if n ≠ i ∧ (sendM H i a ms n).length < 2000 then sendM H i a ms n ++ [⟨(i : Int), (n : Int), a⟩] else sendM H i a ms n) := by
  unfold sendM
  rw [List.range_succ, List.foldl_append]
  rfl
theorem take_foldG {γ : Type} (up : γ → ActS → γ) {l : List ActS} {k : Nat} {x : ActS} (hx : l[k]? = some x) (g : γ) : (l.take (k + 1)).foldl up g = up ((l.take k).foldl up g) x := by
  rw [List.take_add_one, hx, List.foldl_append]
  rfl
end Go.Proofs.Ytbgojlcciealiaa
