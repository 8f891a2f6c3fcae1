/-
  One's way to agreement, as plain mathematics: what each call does. Nothing here speaks of the program. No condition.
-/
import Derived.Test.YtbgojlcciealiaaRndStep
import Derived.Test.YtbgojlcciealiaaRndIn
namespace Go.Proofs.Ytbgojlcciealiaa
open Go Go.RowKit Go.Maps

def freshS (s : RdS) (id : List UInt8) : RdS := { s with fresh := id }
def begS (s : RdS) (id : List UInt8) : RdS := if 0 ≤ s.round then s else beginS (if id ≠ zeroId then freshS s id else s) 0
def begA (s : RdS) (id : List UInt8) : List ActS := if 0 ≤ s.round then [] else beginA (if id ≠ zeroId then freshS s id else s) 0
def offrS (s : RdS) (r v : Int) (id : List UInt8) : RdS := if (0 ≤ r ∧ r < 12) ∧ id ≠ zeroId ∧ id ≠ nilId then layS s r.toNat v id else s
def votS (s : RdS) (r k q : Int) (id : List UInt8) : RdS := if q ≠ s.me then { s with votes := putT s.voters s.votes r k q id } else s
def timeS (s : RdS) (r t : Int) : RdS :=
  if r = s.round ∧ s.step ≠ 3 then
    if t = 0 ∧ s.step = 0 then castS s 0 nilId
    else if t = 1 ∧ s.step = 1 then castS s 1 nilId
    else if t = 2 then beginS s (r + 1)
    else s
  else s
def timeA (s : RdS) (r t : Int) : List ActS :=
  if r = s.round ∧ s.step ≠ 3 then
    if t = 0 ∧ s.step = 0 then castA s 0 nilId
    else if t = 1 ∧ s.step = 1 then castA s 1 nilId
    else if t = 2 then beginA s (r + 1)
    else []
  else []
def resS (s : RdS) (r k : Int) (id : List UInt8) : RdS :=
  let s1 := { s with votes := putT s.voters s.votes r k s.me id }
  if putCode s.voters s.votes r k s.me id ≠ 0 ∨ r < s.round then s1
  else
    let s2 := { s1 with round := r, step := behS k }
    if k = 1 ∧ id ≠ nilId then { s2 with bestR := r + 1, best := id, lockR := r + 1, lock := id } else s2
def recS (s : RdS) (a : ActS) : RdS :=
  if ¬ (0 ≤ a.round ∧ a.round < 12) ∨ a.id = zeroId then s
  else if a.kind = 1 then layS s a.round.toNat a.valid a.id
  else if a.kind = 2 then resS s a.round a.num a.id
  else s
/-- What a call does ahead of what is due then. -/
def preS (s : RdS) (i : InS) : RdS :=
  if i.kind = 0 then begS s i.id
  else if i.kind = 1 then remS s i.id
  else if i.kind = 2 then offrS s i.round i.valid i.id
  else if i.kind = 3 then votS s i.round i.num i.who i.id
  else timeS s i.round i.num
def preA (s : RdS) (i : InS) : List ActS :=
  if i.kind = 0 then begA s i.id
  else if i.kind = 4 then timeA s i.round i.num
  else []
def giveS (s : RdS) (i : InS) : RdS :=
  if 0 ≤ i.kind ∧ i.kind < 5 then settleS (preS s i)
  else if i.kind = 5 then freshS s i.id
  else if i.kind = 7 then remS s i.id
  else if i.kind = 6 then recS s ⟨i.who, i.round, i.num, i.valid, i.id⟩
  else s
def giveA (s : RdS) (i : InS) : List ActS := if 0 ≤ i.kind ∧ i.kind < 5 then preA s i ++ settleA (preS s i) else []
end Go.Proofs.Ytbgojlcciealiaa
