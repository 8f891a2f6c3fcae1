/-
  SHA-256 on plain numbers, so that the kernel reckons a whole sum in a moment, each number reckoned before the next one is begun; and that it is the sum of XMath. Nothing here speaks of the program. No condition.
-/
import Derived.Test.YtkbdkeclbokhdaaDoorMath
import Derived.KernelRfl
namespace Go.Proofs.YtkbdkeclbokhdaaDoor
namespace KSha
/-- Go on with a number that has been reckoned. -/
def fc {α : Type} (x : Nat) (k : Nat → α) : α := Nat.rec (k 0) (fun n _ => k (Nat.succ n)) x
theorem fc_eq {α : Type} (x : Nat) (k : Nat → α) : fc x k = k x := by cases x <;> rfl
def rot (x n m : Nat) : Nat := Nat.mod (Nat.lor (Nat.shiftRight x n) (Nat.shiftLeft x m)) 4294967296
def kL : List Nat := [1116352408, 1899447441, 3049323471, 3921009573, 961987163, 1508970993, 2453635748, 2870763221, 3624381080, 310598401, 607225278, 1426881987, 1925078388, 2162078206, 2614888103, 3248222580,
  3835390401, 4022224774, 264347078, 604807628, 770255983, 1249150122, 1555081692, 1996064986, 2554220882, 2821834349, 2952996808, 3210313671, 3336571891, 3584528711, 113926993, 338241895,
  666307205, 773529912, 1294757372, 1396182291, 1695183700, 1986661051, 2177026350, 2456956037, 2730485921, 2820302411, 3259730800, 3345764771, 3516065817, 3600352804, 4094571909, 275423344,
  430227734, 506948616, 659060556, 883997877, 958139571, 1322822218, 1537002063, 1747873779, 1955562222, 2024104815, 2227730452, 2361852424, 2428436474, 2756734187, 3204031479, 3329325298]
def nb1 (x : Nat) : Nat := Nat.xor (Nat.xor (rot x 6 26) (rot x 11 21)) (rot x 25 7)
def nb0 (x : Nat) : Nat := Nat.xor (Nat.xor (rot x 2 30) (rot x 13 19)) (rot x 22 10)
def nlow (x : Nat) : Nat := Nat.xor (Nat.xor (rot x 7 25) (rot x 18 14)) (Nat.shiftRight x 3)
def nhigh (x : Nat) : Nat := Nat.xor (Nat.xor (rot x 17 15) (rot x 19 13)) (Nat.shiftRight x 10)
def n1 (e f g h k w : Nat) : Nat := Nat.add (Nat.add (Nat.add (Nat.add h (nb1 e)) (Nat.xor (Nat.land e f) (Nat.land (Nat.sub 4294967295 e) g))) k) w
def n2 (a b c : Nat) : Nat := Nat.add (nb0 a) (Nat.xor (Nat.xor (Nat.land a b) (Nat.land a c)) (Nat.land b c))
def nw (w0 w1 w9 w14 : Nat) : Nat := Nat.mod (Nat.add (Nat.add (Nat.add w0 (nlow w1)) w9) (nhigh w14)) 4294967296
def nm (x y : Nat) : Nat := Nat.mod (Nat.add x y) 4294967296
def go {α : Type} (K : Nat → Nat → Nat → Nat → Nat → Nat → Nat → Nat → α) : List Nat → Nat → Nat → Nat → Nat → Nat → Nat → Nat → Nat → Nat → Nat → Nat → Nat → Nat → Nat → Nat → Nat → Nat → Nat → Nat → Nat → Nat → Nat → Nat → Nat → α
  | [], _, _, _, _, _, _, _, _, _, _, _, _, _, _, _, _, a, b, c, d, e, f, g, h => K a b c d e f g h
  | k :: ks, w0, w1, w2, w3, w4, w5, w6, w7, w8, w9, w10, w11, w12, w13, w14, w15, a, b, c, d, e, f, g, h =>
    fc (nw w0 w1 w9 w14) fun w16 => fc (n1 e f g h k w0) fun t1 => fc (nm t1 (n2 a b c)) fun na => fc (nm d t1) fun ne =>
      go K ks w1 w2 w3 w4 w5 w6 w7 w8 w9 w10 w11 w12 w13 w14 w15 w16 na a b c ne e f g
/-- The words of bytes. -/
def wordN (a b c d : Nat) : Nat := Nat.add (Nat.add (Nat.add (Nat.mul a 16777216) (Nat.mul b 65536)) (Nat.mul c 256)) d
def words : Nat → List Nat → List Nat
  | n + 1, a :: b :: c :: d :: rest => fc (wordN a b c d) fun x => x :: words n rest
  | _, _ => []
/-- So many blocks. -/
def blks : Nat → List Nat → Nat → Nat → Nat → Nat → Nat → Nat → Nat → Nat → List Nat
  | n + 1, w0 :: w1 :: w2 :: w3 :: w4 :: w5 :: w6 :: w7 :: w8 :: w9 :: w10 :: w11 :: w12 :: w13 :: w14 :: w15 :: rest, a, b, c, d, e, f, g, h =>
    go (fun a' b' c' d' e' f' g' h' => fc (nm a a') fun a => fc (nm b b') fun b => fc (nm c c') fun c => fc (nm d d') fun d => fc (nm e e') fun e => fc (nm f f') fun f => fc (nm g g') fun g => fc (nm h h') fun h =>
      blks n rest a b c d e f g h) kL w0 w1 w2 w3 w4 w5 w6 w7 w8 w9 w10 w11 w12 w13 w14 w15 a b c d e f g h
  | _, _, a, b, c, d, e, f, g, h => [a, b, c, d, e, f, g, h]
/-- How many blocks so many bytes have. -/
def nBlk (n : Nat) : Nat := Nat.div (Nat.add n 72) 64
def pad (ns : List Nat) (n : Nat) : List Nat :=
  ns ++ 128 :: (List.replicate (Nat.sub (Nat.mul 64 (nBlk n)) (Nat.add n 9)) 0 ++ [Nat.div (Nat.mul 8 n) 72057594037927936, Nat.mod (Nat.div (Nat.mul 8 n) 281474976710656) 256, Nat.mod (Nat.div (Nat.mul 8 n) 1099511627776) 256, Nat.mod (Nat.div (Nat.mul 8 n) 4294967296) 256, Nat.mod (Nat.div (Nat.mul 8 n) 16777216) 256, Nat.mod (Nat.div (Nat.mul 8 n) 65536) 256, Nat.mod (Nat.div (Nat.mul 8 n) 256) 256, Nat.mod (Nat.mul 8 n) 256])
/-- The sum of so many bytes, as eight words. -/
def sha (ns : List Nat) (n : Nat) : List Nat := fc (nBlk n) fun k => blks k (words (Nat.mul 16 k) (pad ns n)) 1779033703 3144134277 1013904242 2773480762 1359893119 2600822924 528734635 1541459225
def bytes4 (w : Nat) : List Nat := [Nat.div w 16777216, Nat.mod (Nat.div w 65536) 256, Nat.mod (Nat.div w 256) 256, Nat.mod w 256]
/-- The bytes of eight words. -/
def digest (ws : List Nat) : List Nat := ws.flatMap bytes4
end KSha
open Go
section ksha
open KSha
theorem rot_toNat (x : W32) (n m : Nat) (hm : n + m = 32) (h0 : 0 < m) : (rr x n).toNat = rot x.toNat n m := by
  have hn : n < 32 := by omega
  obtain rfl : m = 32 - n := by omega
  rw [rr, BitVec.rotateRight_def, Nat.mod_eq_of_lt hn, BitVec.toNat_or, BitVec.toNat_ushiftRight, BitVec.toNat_shiftLeft]
  show _ = ((x.toNat >>> n) ||| (x.toNat <<< (32 - n))) % 2 ^ 32
  rw [Nat.or_mod_two_pow]
  congr 1
  rw [Nat.mod_eq_of_lt]
  have := x.isLt
  have h2 : x.toNat >>> n ≤ x.toNat := by rw [Nat.shiftRight_eq_div_pow]; exact Nat.div_le_self _ _
  omega
theorem nb1_toNat (x : W32) : (big1 x).toNat = nb1 x.toNat := by
  rw [big1, xo, xo, BitVec.toNat_xor, BitVec.toNat_xor, rot_toNat x 6 26 rfl (by omega), rot_toNat x 11 21 rfl (by omega), rot_toNat x 25 7 rfl (by omega)]; rfl
theorem nb0_toNat (x : W32) : (big0 x).toNat = nb0 x.toNat := by
  rw [big0, xo, xo, BitVec.toNat_xor, BitVec.toNat_xor, rot_toNat x 2 30 rfl (by omega), rot_toNat x 13 19 rfl (by omega), rot_toNat x 22 10 rfl (by omega)]; rfl
theorem nlow_toNat (x : W32) : (low x).toNat = nlow x.toNat := by
  rw [low, xo, xo, sr, BitVec.toNat_xor, BitVec.toNat_xor, rot_toNat x 7 25 rfl (by omega), rot_toNat x 18 14 rfl (by omega), BitVec.toNat_ushiftRight]; rfl
theorem nhigh_toNat (x : W32) : (high x).toNat = nhigh x.toNat := by
  rw [high, xo, xo, sr, BitVec.toNat_xor, BitVec.toNat_xor, rot_toNat x 17 15 rfl (by omega), rot_toNat x 19 13 rfl (by omega), BitVec.toNat_ushiftRight]; rfl
theorem not_toNat (x : W32) : (no x).toNat = Nat.sub 4294967295 x.toNat := by
  rw [no, BitVec.toNat_not]; rfl
theorem n1_toNat (s : St) (k w : W32) : (stepOne s k w).toNat = n1 s.e.toNat s.f.toNat s.g.toNat s.h.toNat k.toNat w.toNat % 4294967296 := by
  have e1 : (xo (an s.e s.f) (an (no s.e) s.g)).toNat = Nat.xor (Nat.land s.e.toNat s.f.toNat) (Nat.land (Nat.sub 4294967295 s.e.toNat) s.g.toNat) := by
    rw [xo, an, an, BitVec.toNat_xor, BitVec.toNat_and, BitVec.toNat_and, not_toNat]; rfl
  unfold stepOne n1
  simp only [ad, BitVec.toNat_add, e1, nb1_toNat, Nat.add_eq]
  omega
theorem n2_toNat (s : St) : (stepTwo s).toNat = n2 s.a.toNat s.b.toNat s.c.toNat % 4294967296 := by
  have e1 : (xo (xo (an s.a s.b) (an s.a s.c)) (an s.b s.c)).toNat = Nat.xor (Nat.xor (Nat.land s.a.toNat s.b.toNat) (Nat.land s.a.toNat s.c.toNat)) (Nat.land s.b.toNat s.c.toNat) := by
    rw [xo, xo, an, an, an, BitVec.toNat_xor, BitVec.toNat_xor, BitVec.toNat_and, BitVec.toNat_and, BitVec.toNat_and]; rfl
  unfold stepTwo n2
  simp only [ad, BitVec.toNat_add, e1, nb0_toNat, Nat.add_eq]
theorem nm_toNat (x y : W32) : (ad x y).toNat = nm x.toNat y.toNat := by rw [ad, BitVec.toNat_add]; rfl
theorem next_toNat (b : Nat → UInt8) (i : Nat) : (wv b (i + 16)).toNat = nw (wv b i).toNat (wv b (i + 1)).toNat (wv b (i + 9)).toNat (wv b (i + 14)).toNat := by
  rw [wv_next b (i + 16) (by omega), show i + 16 - 16 = i from by omega, show i + 16 - 15 = i + 1 from by omega, show i + 16 - 7 = i + 9 from by omega, show i + 16 - 2 = i + 14 from by omega]
  unfold nw
  simp only [ad, BitVec.toNat_add, nlow_toNat, nhigh_toNat, Nat.add_eq]
  show _ = (_ : Nat) % 4294967296
  omega
theorem kL_drop (t : Nat) (h : t < 64) : kL.drop t = (kAt t).toNat :: kL.drop (t + 1) := by
  have : ∀ t, t < 64 → kL.drop t = (kAt t).toNat :: kL.drop (t + 1) := by decide +kernel
  exact this t h
theorem go_any {α : Type} (K : Nat → Nat → Nat → Nat → Nat → Nat → Nat → Nat → α) (s : Nat → W32) (b : Nat → UInt8) : ∀ (m t : Nat), t + m = 64 →
    go K (kL.drop t) (wv b t).toNat (wv b (t + 1)).toNat (wv b (t + 2)).toNat (wv b (t + 3)).toNat (wv b (t + 4)).toNat (wv b (t + 5)).toNat (wv b (t + 6)).toNat (wv b (t + 7)).toNat (wv b (t + 8)).toNat (wv b (t + 9)).toNat (wv b (t + 10)).toNat (wv b (t + 11)).toNat (wv b (t + 12)).toNat (wv b (t + 13)).toNat (wv b (t + 14)).toNat (wv b (t + 15)).toNat
      (rounds s (wv b) t).a.toNat (rounds s (wv b) t).b.toNat (rounds s (wv b) t).c.toNat (rounds s (wv b) t).d.toNat (rounds s (wv b) t).e.toNat (rounds s (wv b) t).f.toNat (rounds s (wv b) t).g.toNat (rounds s (wv b) t).h.toNat =
      K (rounds s (wv b) 64).a.toNat (rounds s (wv b) 64).b.toNat (rounds s (wv b) 64).c.toNat (rounds s (wv b) 64).d.toNat (rounds s (wv b) 64).e.toNat (rounds s (wv b) 64).f.toNat (rounds s (wv b) 64).g.toNat (rounds s (wv b) 64).h.toNat := by
  intro m
  induction m with
  | zero =>
    intro t ht
    obtain rfl : t = 64 := by omega
    rfl
  | succ m ih =>
    intro t ht
    have h := ih (t + 1) (by omega)
    rw [kL_drop t (by omega)]
    unfold go
    simp only [fc_eq]
    rw [← next_toNat b t]
    have e1 : nm (rounds s (wv b) t).d.toNat (n1 (rounds s (wv b) t).e.toNat (rounds s (wv b) t).f.toNat (rounds s (wv b) t).g.toNat (rounds s (wv b) t).h.toNat (kAt t).toNat (wv b t).toNat) = (rounds s (wv b) (t + 1)).e.toNat := by
      show _ = (ad (rounds s (wv b) t).d (stepOne (rounds s (wv b) t) (kAt t) (wv b t))).toNat
      rw [nm_toNat, n1_toNat]
      unfold nm
      show (_ : Nat) % 4294967296 = (_ : Nat) % 4294967296
      simp only [Nat.add_eq]
      omega
    have e2 : nm (n1 (rounds s (wv b) t).e.toNat (rounds s (wv b) t).f.toNat (rounds s (wv b) t).g.toNat (rounds s (wv b) t).h.toNat (kAt t).toNat (wv b t).toNat) (n2 (rounds s (wv b) t).a.toNat (rounds s (wv b) t).b.toNat (rounds s (wv b) t).c.toNat) = (rounds s (wv b) (t + 1)).a.toNat := by
      show _ = (ad (stepOne (rounds s (wv b) t) (kAt t) (wv b t)) (stepTwo (rounds s (wv b) t))).toNat
      rw [nm_toNat, n1_toNat, n2_toNat]
      unfold nm
      show (_ : Nat) % 4294967296 = (_ : Nat) % 4294967296
      simp only [Nat.add_eq]
      omega
    rw [e1, e2]
    exact h
/-- A block's bytes, as numbers. -/
def blkN (b : Nat → UInt8) : List Nat := (List.range 64).map fun i => (b i).toNat
theorem kor_add (a b k p : Nat) (hp : p = 2 ^ k) (h : b < p) : (a * p ||| b) = a * p + b := by
  subst hp
  rw [Nat.mul_comm]
  exact (Nat.two_pow_add_eq_or_of_lt h a).symm
theorem wordN_toNat (b : Nat → UInt8) (i : Nat) : (word b i).toNat = wordN (b (4 * i)).toNat (b (4 * i + 1)).toNat (b (4 * i + 2)).toNat (b (4 * i + 3)).toNat := by
  have h0 := (b (4 * i)).toNat_lt
  have h1 := (b (4 * i + 1)).toNat_lt
  have h2 := (b (4 * i + 2)).toNat_lt
  have h3 := (b (4 * i + 3)).toNat_lt
  unfold word wordN
  simp only [ro, sl, BitVec.toNat_or, BitVec.toNat_shiftLeft, w8_toNat, Nat.shiftLeft_eq, Nat.add_eq, Nat.mul_eq]
  generalize (b (4 * i)).toNat = x0 at *
  generalize (b (4 * i + 1)).toNat = x1 at *
  generalize (b (4 * i + 2)).toNat = x2 at *
  generalize (b (4 * i + 3)).toNat = x3 at *
  simp only [Nat.reducePow]
  rw [Nat.mod_eq_of_lt (by omega), Nat.mod_eq_of_lt (by omega), Nat.mod_eq_of_lt (by omega)]
  rw [kor_add x0 (x1 * 65536) 24 16777216 rfl (by omega)]
  rw [show x0 * 16777216 + x1 * 65536 = (x0 * 256 + x1) * 65536 from by omega, kor_add (x0 * 256 + x1) (x2 * 256) 16 65536 rfl (by omega)]
  rw [show (x0 * 256 + x1) * 65536 + x2 * 256 = (x0 * 65536 + x1 * 256 + x2) * 256 from by omega, kor_add (x0 * 65536 + x1 * 256 + x2) x3 8 256 rfl (by omega)]
set_option maxRecDepth 100000 in
theorem words_blk (b : Nat → UInt8) (k : Nat) (rest : List Nat) : words (k + 16) (blkN b ++ rest) =
    [(wv b 0).toNat, (wv b 1).toNat, (wv b 2).toNat, (wv b 3).toNat, (wv b 4).toNat, (wv b 5).toNat, (wv b 6).toNat, (wv b 7).toNat, (wv b 8).toNat, (wv b 9).toNat, (wv b 10).toNat, (wv b 11).toNat, (wv b 12).toNat, (wv b 13).toNat, (wv b 14).toNat, (wv b 15).toNat] ++ words k rest := by
  have hw : ∀ i, i < 16 → (wv b i).toNat = wordN (b (4 * i)).toNat (b (4 * i + 1)).toNat (b (4 * i + 2)).toNat (b (4 * i + 3)).toNat := fun i hi => by rw [wv_first b i hi, wordN_toNat]
  rw [hw 0 (by omega), hw 1 (by omega), hw 2 (by omega), hw 3 (by omega), hw 4 (by omega), hw 5 (by omega), hw 6 (by omega), hw 7 (by omega), hw 8 (by omega), hw 9 (by omega), hw 10 (by omega), hw 11 (by omega), hw 12 (by omega), hw 13 (by omega), hw 14 (by omega), hw 15 (by omega)]
  have hb : blkN b = [(b 0).toNat, (b 1).toNat, (b 2).toNat, (b 3).toNat, (b 4).toNat, (b 5).toNat, (b 6).toNat, (b 7).toNat, (b 8).toNat, (b 9).toNat, (b 10).toNat, (b 11).toNat, (b 12).toNat, (b 13).toNat, (b 14).toNat, (b 15).toNat, (b 16).toNat, (b 17).toNat, (b 18).toNat, (b 19).toNat, (b 20).toNat, (b 21).toNat, (b 22).toNat, (b 23).toNat, (b 24).toNat, (b 25).toNat, (b 26).toNat, (b 27).toNat, (b 28).toNat, (b 29).toNat, (b 30).toNat, (b 31).toNat, (b 32).toNat, (b 33).toNat, (b 34).toNat, (b 35).toNat, (b 36).toNat, (b 37).toNat, (b 38).toNat, (b 39).toNat, (b 40).toNat, (b 41).toNat, (b 42).toNat, (b 43).toNat, (b 44).toNat, (b 45).toNat, (b 46).toNat, (b 47).toNat, (b 48).toNat, (b 49).toNat, (b 50).toNat, (b 51).toNat, (b 52).toNat, (b 53).toNat, (b 54).toNat, (b 55).toNat, (b 56).toNat, (b 57).toNat, (b 58).toNat, (b 59).toNat, (b 60).toNat, (b 61).toNat, (b 62).toNat, (b 63).toNat] := rfl
  rw [hb]
  simp only [words, fc_eq, List.cons_append, List.nil_append, Nat.reduceMul, Nat.reduceAdd]
/-- Eight words, one after the other. -/
def st8 (s : Nat → W32) : List Nat := [(s 0).toNat, (s 1).toNat, (s 2).toNat, (s 3).toNat, (s 4).toNat, (s 5).toNat, (s 6).toNat, (s 7).toNat]
theorem blks_any : ∀ (Bs : List (Nat → UInt8)) (s : Nat → W32), blks Bs.length (words (16 * Bs.length) (Bs.flatMap blkN)) (s 0).toNat (s 1).toNat (s 2).toNat (s 3).toNat (s 4).toNat (s 5).toNat (s 6).toNat (s 7).toNat = st8 (Bs.foldl (fun s b => mixed s (wv b)) s) := by
  intro Bs
  induction Bs with
  | nil => intro s; rfl
  | cons b Bs ih =>
    intro s
    rw [List.length_cons, List.flatMap_cons, show 16 * (Bs.length + 1) = 16 * Bs.length + 16 from by omega, words_blk]
    simp only [List.cons_append, List.nil_append, blks]
    have h := go_any (fun a' b' c' d' e' f' g' h' => fc (nm (s 0).toNat a') fun a => fc (nm (s 1).toNat b') fun b => fc (nm (s 2).toNat c') fun c => fc (nm (s 3).toNat d') fun d => fc (nm (s 4).toNat e') fun e => fc (nm (s 5).toNat f') fun f => fc (nm (s 6).toNat g') fun g => fc (nm (s 7).toNat h') fun h =>
      blks Bs.length (words (16 * Bs.length) (Bs.flatMap blkN)) a b c d e f g h) s b 64 0 rfl
    have h2 := ih (mixed s (wv b))
    refine Eq.trans h ?_
    simp only [fc_eq]
    rw [List.foldl_cons, ← h2]
    simp only [mixed, nm_toNat, St.get]
theorem flat_fulls (L : List UInt8) (q : Nat) (h : 64 * q ≤ L.length) : (fulls L q).flatMap blkN = (L.take (64 * q)).map UInt8.toNat := by
  induction q with
  | zero => simp [fulls]
  | succ q ih =>
    rw [fulls_succ, List.flatMap_append, ih (by omega), List.flatMap_cons, List.flatMap_nil, List.append_nil, show 64 * (q + 1) = 64 * q + 64 from by omega, List.take_add, List.map_append]
    congr 1
    refine List.ext_getElem? fun i => ?_
    by_cases hi : i < 64
    · rw [blkN, List.getElem?_map, List.getElem?_map, List.getElem?_range hi, List.getElem?_take_of_lt hi, List.getElem?_drop, List.getElem?_eq_getElem (by omega)]
      simp only [Option.map_some, fullBlk, List.getD_eq_getElem?_getD]
      rw [List.getElem?_eq_getElem (by omega)]
      rfl
    · rw [List.getElem?_eq_none (by simp [blkN]; omega), List.getElem?_eq_none (by simp; omega)]
theorem cnt8 (c : Nat) (hc : c < 18446744073709551616) : (List.range 8).map (fun i => (cntByte c i).toNat) = [c / 72057594037927936, c / 281474976710656 % 256, c / 1099511627776 % 256, c / 4294967296 % 256, c / 16777216 % 256, c / 65536 % 256, c / 256 % 256, c % 256] := by
  show [(cntByte c 0).toNat, (cntByte c 1).toNat, (cntByte c 2).toNat, (cntByte c 3).toNat, (cntByte c 4).toNat, (cntByte c 5).toNat, (cntByte c 6).toNat, (cntByte c 7).toNat] = _
  simp only [cntByte, UInt8.toNat_ofNat', Nat.reduceMul, Nat.reduceSub, Nat.reducePow, Nat.div_one, Nat.pow_zero]
  rw [Nat.mod_eq_of_lt (show c / 72057594037927936 < 256 by omega)]
theorem blkN_length (b : Nat → UInt8) : (blkN b).length = 64 := by simp [blkN]
theorem blkN_get (b : Nat → UInt8) (i : Nat) : (blkN b)[i]? = if i < 64 then some (b i).toNat else none := by
  unfold blkN
  by_cases h : i < 64
  · rw [List.getElem?_map, List.getElem?_range h, if_pos h]; rfl
  · rw [if_neg h, List.getElem?_eq_none (by simp; omega)]
theorem range64 : List.range 64 = List.range 56 ++ (List.range 8).map (fun i => 56 + i) := by decide
theorem tail_flat (c : Nat) (f : Nat → UInt8) : blkN (tailB c f) = (List.range 56).map (fun i => (f i).toNat) ++ (List.range 8).map (fun i => (cntByte c i).toNat) := by
  unfold blkN
  rw [range64, List.map_append, List.map_map]
  refine congr (congrArg _ ?_) ?_
  · refine List.map_congr_left fun i hi => ?_
    rw [List.mem_range] at hi
    rw [tailB, if_pos hi]
  · refine List.map_congr_left fun i hi => ?_
    simp only [Function.comp]
    rw [tailB, if_neg (by omega), show 56 + i - 56 = i from by omega]
theorem head_flat (r : Nat → UInt8) (n m : Nat) (h : n < m) : (List.range m).map (fun i => (headB r n i).toNat) = (List.range n).map (fun i => (r i).toNat) ++ 128 :: List.replicate (m - n - 1) 0 := by
  refine List.ext_getElem (by simp; omega) fun i h1 h2 => ?_
  simp only [List.getElem_map, List.getElem_range, List.getElem_append, List.length_map, List.length_range, List.getElem_cons, List.getElem_replicate]
  unfold headB
  simp only [List.length_map, List.length_range] at h1
  by_cases e1 : i < n
  · simp [e1]
  · by_cases e2 : i = n
    · simp [e2]
    · have : ¬ i - n = 0 := by omega
      simp [e1, e2, this]
theorem drop_flat (L : List UInt8) : (List.range (L.length % 64)).map (fun i => (fullBlk L (L.length / 64) i).toNat) = (L.drop (64 * (L.length / 64))).map UInt8.toNat := by
  refine List.ext_getElem (by simp; omega) fun i h1 h2 => ?_
  simp only [List.length_map, List.length_range] at h1
  simp only [List.getElem_map, List.getElem_range, List.getElem_drop, fullBlk, List.getD_eq_getElem?_getD]
  rw [List.getElem?_eq_getElem (by omega)]
  rfl
theorem zeros_map (n : Nat) : (List.range n).map (fun _ => ((0 : UInt8)).toNat) = List.replicate n 0 := by
  refine List.ext_getElem (by simp) fun i h1 h2 => ?_
  simp
theorem lasts_flat (L : List UInt8) (_hL : L.length < 2305843009213693952) : (lasts L).flatMap blkN = (L.drop (64 * (L.length / 64))).map UInt8.toNat ++ 128 :: (List.replicate (64 * ((L.length + 72) / 64) - (L.length + 9)) 0 ++ (List.range 8).map (fun i => (cntByte (L.length * 8) i).toNat)) := by
  unfold lasts endBlocks
  by_cases h : L.length % 64 < 56
  · rw [if_pos h, List.flatMap_cons, List.flatMap_nil, List.append_nil, tail_flat, head_flat _ _ _ h, drop_flat, List.append_assoc, List.cons_append]
    congr 4
    omega
  · rw [if_neg h, List.flatMap_cons, List.flatMap_cons, List.flatMap_nil, List.append_nil, tail_flat, zeros_map]
    have h2 : blkN (headB (fullBlk L (L.length / 64)) (L.length % 64)) = (List.range 64).map (fun i => (headB (fullBlk L (L.length / 64)) (L.length % 64) i).toNat) := rfl
    rw [h2, head_flat _ _ _ (by omega), drop_flat, List.append_assoc, List.cons_append, ← List.append_assoc (List.replicate _ 0), List.replicate_append_replicate]
    congr 4
    omega
theorem all_flat (L : List UInt8) (hL : L.length < 2305843009213693952) : (allBlocks L).flatMap blkN = pad (L.map UInt8.toNat) L.length := by
  unfold allBlocks
  rw [List.flatMap_append, flat_fulls L _ (by omega), lasts_flat L hL, ← List.append_assoc, ← List.map_append, List.take_append_drop, cnt8 _ (by omega), Nat.mul_comm L.length 8]
  rfl
theorem all_count (L : List UInt8) : (allBlocks L).length = nBlk L.length := by
  unfold allBlocks fulls lasts endBlocks nBlk
  rw [List.length_append, List.length_map, List.length_range]
  show _ = (L.length + 72) / 64
  split <;> simp <;> omega
/-- The sum of any bytes, reckoned on numbers. -/
theorem sha_st (L : List UInt8) (hL : L.length < 2305843009213693952) : KSha.sha (L.map UInt8.toNat) L.length = st8 (shaSt (allBlocks L)) := by
  unfold KSha.sha
  rw [fc_eq, ← all_flat L hL, ← all_count]
  exact blks_any (allBlocks L) hAt
theorem toNat_ofNat_map (ns : List Nat) (h : ns.all (· < 256) = true) : (ns.map UInt8.ofNat).map UInt8.toNat = ns := by
  rw [List.map_map]
  conv => rhs; rw [← List.map_id ns]
  refine List.map_congr_left fun x hx => ?_
  have := List.all_eq_true.1 h x hx
  simp at this
  simp [Function.comp]
  omega
/-- What the kernel reckoned is the sum: its bytes. -/
theorem sha_known (ns : List Nat) (n : Nat) (ws : List Nat) (hn : ns.length = n) (hs : n < 2305843009213693952) (ha : ns.all (· < 256) = true) (h : KSha.sha ns n = ws) (i : Nat) (hi : i < 32) :
    sha (ns.map UInt8.ofNat) i = UInt8.ofNat ((digest ws).getD i 0) := by
  have e := sha_st (ns.map UInt8.ofNat) (by simp [hn, hs])
  rw [toNat_ofNat_map ns ha, List.length_map, hn, h] at e
  subst e
  show byteOf _ _ = _
  unfold byteOf
  have d : digest (st8 (shaSt (allBlocks (ns.map UInt8.ofNat)))) = [Nat.div (shaSt (allBlocks (ns.map UInt8.ofNat)) 0).toNat 16777216, Nat.mod (Nat.div (shaSt (allBlocks (ns.map UInt8.ofNat)) 0).toNat 65536) 256, Nat.mod (Nat.div (shaSt (allBlocks (ns.map UInt8.ofNat)) 0).toNat 256) 256, Nat.mod (shaSt (allBlocks (ns.map UInt8.ofNat)) 0).toNat 256,
    Nat.div (shaSt (allBlocks (ns.map UInt8.ofNat)) 1).toNat 16777216, Nat.mod (Nat.div (shaSt (allBlocks (ns.map UInt8.ofNat)) 1).toNat 65536) 256, Nat.mod (Nat.div (shaSt (allBlocks (ns.map UInt8.ofNat)) 1).toNat 256) 256, Nat.mod (shaSt (allBlocks (ns.map UInt8.ofNat)) 1).toNat 256,
    Nat.div (shaSt (allBlocks (ns.map UInt8.ofNat)) 2).toNat 16777216, Nat.mod (Nat.div (shaSt (allBlocks (ns.map UInt8.ofNat)) 2).toNat 65536) 256, Nat.mod (Nat.div (shaSt (allBlocks (ns.map UInt8.ofNat)) 2).toNat 256) 256, Nat.mod (shaSt (allBlocks (ns.map UInt8.ofNat)) 2).toNat 256,
    Nat.div (shaSt (allBlocks (ns.map UInt8.ofNat)) 3).toNat 16777216, Nat.mod (Nat.div (shaSt (allBlocks (ns.map UInt8.ofNat)) 3).toNat 65536) 256, Nat.mod (Nat.div (shaSt (allBlocks (ns.map UInt8.ofNat)) 3).toNat 256) 256, Nat.mod (shaSt (allBlocks (ns.map UInt8.ofNat)) 3).toNat 256,
    Nat.div (shaSt (allBlocks (ns.map UInt8.ofNat)) 4).toNat 16777216, Nat.mod (Nat.div (shaSt (allBlocks (ns.map UInt8.ofNat)) 4).toNat 65536) 256, Nat.mod (Nat.div (shaSt (allBlocks (ns.map UInt8.ofNat)) 4).toNat 256) 256, Nat.mod (shaSt (allBlocks (ns.map UInt8.ofNat)) 4).toNat 256,
    Nat.div (shaSt (allBlocks (ns.map UInt8.ofNat)) 5).toNat 16777216, Nat.mod (Nat.div (shaSt (allBlocks (ns.map UInt8.ofNat)) 5).toNat 65536) 256, Nat.mod (Nat.div (shaSt (allBlocks (ns.map UInt8.ofNat)) 5).toNat 256) 256, Nat.mod (shaSt (allBlocks (ns.map UInt8.ofNat)) 5).toNat 256,
    Nat.div (shaSt (allBlocks (ns.map UInt8.ofNat)) 6).toNat 16777216, Nat.mod (Nat.div (shaSt (allBlocks (ns.map UInt8.ofNat)) 6).toNat 65536) 256, Nat.mod (Nat.div (shaSt (allBlocks (ns.map UInt8.ofNat)) 6).toNat 256) 256, Nat.mod (shaSt (allBlocks (ns.map UInt8.ofNat)) 6).toNat 256,
    Nat.div (shaSt (allBlocks (ns.map UInt8.ofNat)) 7).toNat 16777216, Nat.mod (Nat.div (shaSt (allBlocks (ns.map UInt8.ofNat)) 7).toNat 65536) 256, Nat.mod (Nat.div (shaSt (allBlocks (ns.map UInt8.ofNat)) 7).toNat 256) 256, Nat.mod (shaSt (allBlocks (ns.map UInt8.ofNat)) 7).toNat 256] := rfl
  rw [d]
  generalize shaSt (allBlocks (ns.map UInt8.ofNat)) = s
  have k0 := (s 0).isLt
  obtain rfl | rfl | rfl | rfl | rfl | rfl | rfl | rfl | rfl | rfl | rfl | rfl | rfl | rfl | rfl | rfl | rfl | rfl | rfl | rfl | rfl | rfl | rfl | rfl | rfl | rfl | rfl | rfl | rfl | rfl | rfl | rfl : i = 0 ∨ i = 1 ∨ i = 2 ∨ i = 3 ∨ i = 4 ∨ i = 5 ∨ i = 6 ∨ i = 7 ∨ i = 8 ∨ i = 9 ∨ i = 10 ∨ i = 11 ∨ i = 12 ∨ i = 13 ∨ i = 14 ∨ i = 15 ∨ i = 16 ∨ i = 17 ∨ i = 18 ∨ i = 19 ∨ i = 20 ∨ i = 21 ∨ i = 22 ∨ i = 23 ∨ i = 24 ∨ i = 25 ∨ i = 26 ∨ i = 27 ∨ i = 28 ∨ i = 29 ∨ i = 30 ∨ i = 31 := by omega
  all_goals (refine UInt8.toNat_inj.1 ?_; rw [UInt8.toNat_ofNat', UInt8.toNat_ofNat']; first | rfl | (show _ = (_ % 256 : Nat) % 256; rw [Nat.mod_mod]; first | rfl | (congr 1; exact Nat.div_one _)))
/-- The digest's bytes, as a list: of a sum that goes into another one. -/
theorem id_known (ns : List Nat) (n : Nat) (ws : List Nat) (hn : ns.length = n) (hs : n < 2305843009213693952) (ha : ns.all (· < 256) = true) (h : KSha.sha ns n = ws) (h8 : ws.length = 8) :
    (List.range 32).map (sha (ns.map UInt8.ofNat)) = (digest ws).map UInt8.ofNat := by
  have hl : (digest ws).length = 32 := by
    match ws, h8 with
    | [a, b, c, d, e, f, g, h], _ => rfl
  refine List.ext_getElem (by simp [hl]) fun i h1 h2 => ?_
  simp only [List.length_map, List.length_range] at h1
  rw [List.getElem_map, List.getElem_map, List.getElem_range, sha_known ns n ws hn hs ha h i h1, List.getD_eq_getElem?_getD, List.getElem?_eq_getElem (by omega)]
  rfl
end ksha
end Go.Proofs.YtkbdkeclbokhdaaDoor