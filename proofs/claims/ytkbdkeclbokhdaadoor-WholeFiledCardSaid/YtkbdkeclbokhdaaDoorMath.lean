/-
  Plain mathematics for the sums: SHA-256 on words of 32 bits, written over functions from places to words; nothing here speaks of the program. No condition.
-/
import Derived.Laws.BitsAllLaws
import Derived.Laws.World
import Derived.Laws.Rows
namespace Go.Proofs.YtkbdkeclbokhdaaDoor
open Go

abbrev W32 := BitVec 32
/-- A word, a byte, as values. -/
def u (x : W32) : Value := .int .u32 (x.toNat : Int)
def bv (b : UInt8) : Value := .int .u8 (b.toNat : Int)

/-- An array of n places. -/
def arr (n : Nat) (f : Nat → Value) : Array Value := (Array.range n).map f
theorem arr_get (n : Nat) (f : Nat → Value) (i : Nat) : (arr n f)[i]? = if i < n then some (f i) else none := by
  unfold arr
  by_cases h : i < n
  · simp [h]
  · simp [h]
theorem arr_size (n : Nat) (f : Nat → Value) : (arr n f).size = n := by simp [arr]
theorem arr_congr {n : Nat} {f g : Nat → Value} (h : ∀ i, i < n → f i = g i) : arr n f = arr n g := by
  apply Array.ext_getElem?
  intro i
  rw [arr_get, arr_get]
  by_cases hi : i < n
  · simp [hi, h i hi]
  · simp [hi]
theorem arr_set (n : Nat) (f : Nat → Value) (k : Nat) (v : Value) (hk : k < n) : (arr n f).setIfInBounds k v = arr n (fun i => if i = k then v else f i) := by
  apply Array.ext_getElem?
  intro i
  rw [Array.getElem?_setIfInBounds, arr_get, arr_get, arr_size]
  by_cases hi : k = i
  · subst hi; simp [hk]
  · have : ¬ i = k := fun e => hi e.symm
    simp [hi, this]
theorem arr_of (n : Nat) (a : Array Value) (f : Nat → Value) (hs : a.size = n) (h : ∀ i, i < n → a[i]? = some (f i)) : a = arr n f := by
  apply Array.ext_getElem?
  intro i
  rw [arr_get]
  by_cases hi : i < n
  · simp [hi, h i hi]
  · simp [hi]; omega

theorem arr_all_u (n : Nat) (f : Nat → W32) : ((arr n fun i => u (f i)).all fun x => x.oneCell') = true := by
  rw [Array.all_eq_true_iff_forall_mem]
  intro x hx
  simp only [arr, Array.mem_map] at hx
  obtain ⟨i, _, rfl⟩ := hx
  rfl
theorem arr_all_bv (n : Nat) (f : Nat → UInt8) : ((arr n fun i => bv (f i)).all fun x => x.oneCell') = true := by
  rw [Array.all_eq_true_iff_forall_mem]
  intro x hx
  simp only [arr, Array.mem_map] at hx
  obtain ⟨i, _, rfl⟩ := hx
  rfl
/-! ### Operations on words, each under a name that simp does not open; the walk's spellings of them -/
def xo (x y : W32) : W32 := x ^^^ y
def an (x y : W32) : W32 := x &&& y
def ro (x y : W32) : W32 := x ||| y
def ad (x y : W32) : W32 := x + y
def no (x : W32) : W32 := ~~~x
def rr (x : W32) (n : Nat) : W32 := x.rotateRight n
def sr (x : W32) (n : Nat) : W32 := x >>> n
def sl (x : W32) (n : Nat) : W32 := x <<< n
theorem xor_w (x y : W32) : bits .xor .u32 (x.toNat : Int) (y.toNat : Int) = ((xo x y).toNat : Int) := by rw [u32_xor_nat _ _ x.isLt y.isLt, xo, BitVec.toNat_xor]
theorem and_w (x y : W32) : bits .and .u32 (x.toNat : Int) (y.toNat : Int) = ((an x y).toNat : Int) := by rw [u32_and_nat _ _ x.isLt y.isLt, an, BitVec.toNat_and]
theorem or_w (x y : W32) : bits .or .u32 (x.toNat : Int) (y.toNat : Int) = ((ro x y).toNat : Int) := by rw [u32_or_nat _ _ x.isLt y.isLt, ro, BitVec.toNat_or]
theorem add_w (x y : W32) : ((x.toNat : Int) + (y.toNat : Int)) % 4294967296 = ((ad x y).toNat : Int) := by rw [ad, BitVec.toNat_add]; omega
theorem add_w' (x y : W32) : IntKind.u32.wrap ((x.toNat : Int) + (y.toNat : Int)) = ((ad x y).toNat : Int) := by rw [IntKind.wrap_u32', add_w]
theorem shr_w (x : W32) (n : Nat) : (x.toNat : Int) / 2 ^ n = ((sr x n).toNat : Int) := by
  rw [sr, BitVec.toNat_ushiftRight, Nat.shiftRight_eq_div_pow]; simp
theorem shr_w3 (x : W32) : (x.toNat : Int) / 8 = ((sr x 3).toNat : Int) := shr_w x 3
theorem shr_w10 (x : W32) : (x.toNat : Int) / 1024 = ((sr x 10).toNat : Int) := shr_w x 10
theorem shl_w (x : W32) (n : Nat) : ((x.toNat : Int) * 2 ^ n) % 4294967296 = ((sl x n).toNat : Int) := by
  rw [sl, BitVec.toNat_shiftLeft, Nat.shiftLeft_eq]; simp
theorem shl_w24 (x : W32) : (x.toNat : Int) * 16777216 % 4294967296 = ((sl x 24).toNat : Int) := shl_w x 24
theorem shl_w16 (x : W32) : (x.toNat : Int) * 65536 % 4294967296 = ((sl x 16).toNat : Int) := shl_w x 16
theorem shl_w8 (x : W32) : (x.toNat : Int) * 256 % 4294967296 = ((sl x 8).toNat : Int) := shl_w x 8
theorem not_w (x : W32) : bits .xor .u32 (if IntKind.u32.signed = true then -1 else IntKind.u32.max) (x.toNat : Int) = ((no x).toNat : Int) := by
  show IntKind.u32.wrap ((BitVec.ofInt 32 4294967295 ^^^ BitVec.ofInt 32 (x.toNat : Int)).toNat : Int) = _
  have h1 : BitVec.ofInt 32 4294967295 = BitVec.allOnes 32 := by decide
  have h2 : BitVec.ofInt 32 (x.toNat : Int) = x := by
    apply BitVec.eq_of_toNat_eq
    rw [ofInt_u32 _ x.isLt]
  rw [h1, h2, BitVec.allOnes_xor, IntKind.wrap_u32', no]
  have := (~~~x).isLt
  omega
theorem rot_w (x : W32) (m n : Nat) (h : m + n = 32) (hn : n ≤ 31) : bits .or .u32 ((x.toNat : Int) * 2 ^ m % 4294967296) ((x.toNat : Int) / 2 ^ n) = ((rr x n).toNat : Int) := by
  rw [shl_w, shr_w, or_w]
  congr 2
  obtain rfl : m = 32 - n := by omega
  rw [ro, sl, sr, rr, BitVec.rotateRight_def, Nat.mod_eq_of_lt (by omega : n < 32), BitVec.or_comm]

/-- A word's byte behind so many bits; a state's bytes. -/
def byteOf (x : W32) (n : Nat) : UInt8 := UInt8.ofNat (x.toNat / 2 ^ n)
def idByte (s : Nat → W32) (i : Nat) : UInt8 := byteOf (s (i / 4)) (24 - 8 * (i % 4))
/-! ### The rounds of a block -/
structure St where
  a : W32
  b : W32
  c : W32
  d : W32
  e : W32
  f : W32
  g : W32
  h : W32
def St.get (s : St) : Nat → W32
  | 0 => s.a
  | 1 => s.b
  | 2 => s.c
  | 3 => s.d
  | 4 => s.e
  | 5 => s.f
  | 6 => s.g
  | _ => s.h
def big1 (x : W32) : W32 := xo (xo (rr x 6) (rr x 11)) (rr x 25)
def big0 (x : W32) : W32 := xo (xo (rr x 2) (rr x 13)) (rr x 22)
def stepOne (s : St) (k w : W32) : W32 := ad (ad (ad (ad s.h (big1 s.e)) (xo (an s.e s.f) (an (no s.e) s.g))) k) w
def stepTwo (s : St) : W32 := ad (big0 s.a) (xo (xo (an s.a s.b) (an s.a s.c)) (an s.b s.c))
def step (s : St) (k w : W32) : St := ⟨ad (stepOne s k w) (stepTwo s), s.a, s.b, s.c, ad s.d (stepOne s k w), s.e, s.f, s.g⟩
/-- The constants of the rounds, as the program's table has them. -/
def kList : List W32 := [1116352408, 1899447441, 3049323471, 3921009573, 961987163, 1508970993, 2453635748, 2870763221, 3624381080, 310598401, 607225278, 1426881987, 1925078388, 2162078206, 2614888103, 3248222580,
  3835390401, 4022224774, 264347078, 604807628, 770255983, 1249150122, 1555081692, 1996064986, 2554220882, 2821834349, 2952996808, 3210313671, 3336571891, 3584528711, 113926993, 338241895,
  666307205, 773529912, 1294757372, 1396182291, 1695183700, 1986661051, 2177026350, 2456956037, 2730485921, 2820302411, 3259730800, 3345764771, 3516065817, 3600352804, 4094571909, 275423344,
  430227734, 506948616, 659060556, 883997877, 958139571, 1322822218, 1537002063, 1747873779, 1955562222, 2024104815, 2227730452, 2361852424, 2428436474, 2756734187, 3204031479, 3329325298]
def kAt (i : Nat) : W32 := kList.getD i 0
def hList : List W32 := [1779033703, 3144134277, 1013904242, 2773480762, 1359893119, 2600822924, 528734635, 1541459225]
def hAt (i : Nat) : W32 := hList.getD i 0
def stOf (s : Nat → W32) : St := ⟨s 0, s 1, s 2, s 3, s 4, s 5, s 6, s 7⟩
def rounds (s : Nat → W32) (ws : Nat → W32) : Nat → St
  | 0 => stOf s
  | n + 1 => step (rounds s ws n) (kAt n) (ws n)
def mixed (s : Nat → W32) (ws : Nat → W32) (i : Nat) : W32 := ad (s i) ((rounds s ws 64).get i)
/-! ### The schedule of a block -/
def w8 (b : UInt8) : W32 := BitVec.ofNat 32 b.toNat
theorem w8_toNat (b : UInt8) : (w8 b).toNat = b.toNat := by
  simp [w8]
theorem w8_wrap (b : UInt8) : IntKind.u32.wrap (b.toNat : Int) = ((w8 b).toNat : Int) := by
  have := b.toNat_lt
  rw [IntKind.wrap_u32', w8_toNat]; omega
/-- The word at a place of a block's bytes. -/
def word (b : Nat → UInt8) (i : Nat) : W32 := ro (ro (ro (sl (w8 (b (4 * i))) 24) (sl (w8 (b (4 * i + 1))) 16)) (sl (w8 (b (4 * i + 2))) 8)) (w8 (b (4 * i + 3)))
def low (x : W32) : W32 := xo (xo (rr x 7) (rr x 18)) (sr x 3)
def high (x : W32) : W32 := xo (xo (rr x 17) (rr x 19)) (sr x 10)
def next (b : Nat → UInt8) (ws : List W32) : W32 :=
  if ws.length < 16 then word b ws.length
  else ad (ad (ad (ws.getD (ws.length - 16) 0) (low (ws.getD (ws.length - 15) 0))) (ws.getD (ws.length - 7) 0)) (high (ws.getD (ws.length - 2) 0))
def schedTo (b : Nat → UInt8) : Nat → List W32
  | 0 => []
  | n + 1 => schedTo b n ++ [next b (schedTo b n)]
theorem schedTo_length (b : Nat → UInt8) (n : Nat) : (schedTo b n).length = n := by
  induction n with
  | zero => rfl
  | succ n ih => simp [schedTo, ih]
/-- The i-th word. -/
def wv (b : Nat → UInt8) (i : Nat) : W32 := (schedTo b (i + 1)).getD i 0
theorem schedTo_getD (b : Nat → UInt8) (n i : Nat) (h : i < n) : (schedTo b n).getD i 0 = wv b i := by
  induction n with
  | zero => omega
  | succ n ih =>
    by_cases e : i = n
    · subst e; rfl
    · have hi : i < n := by omega
      rw [← ih hi]
      simp only [schedTo, List.getD_eq_getElem?_getD]
      rw [List.getElem?_append_left (by rw [schedTo_length]; exact hi)]
theorem wv_first (b : Nat → UInt8) (i : Nat) (h : i < 16) : wv b i = word b i := by
  simp [wv, schedTo, List.getD_eq_getElem?_getD, schedTo_length, next, h]
theorem wv_next (b : Nat → UInt8) (i : Nat) (h : 16 ≤ i) : wv b i = ad (ad (ad (wv b (i - 16)) (low (wv b (i - 15)))) (wv b (i - 7))) (high (wv b (i - 2))) := by
  have e : wv b i = next b (schedTo b i) := by
    simp [wv, schedTo, List.getD_eq_getElem?_getD, schedTo_length]
  rw [e]
  unfold next
  rw [schedTo_length, if_neg (by omega), schedTo_getD b i _ (by omega), schedTo_getD b i _ (by omega), schedTo_getD b i _ (by omega), schedTo_getD b i _ (by omega)]

/-- Cells that are filled up to a place. -/
def upto (n k : Nat) (f : Nat → Value) (z : Value) : Array Value := arr n (fun i => if i < k then f i else z)
theorem upto_get (n k : Nat) (f : Nat → Value) (z : Value) (i : Nat) (hi : i < k) (hn : i < n) : (upto n k f z)[i]? = some (f i) := by simp [upto, arr_get, hi, hn]
theorem upto_get_any (n k : Nat) (f : Nat → Value) (z : Value) (i : Nat) (hn : i < n) : (upto n k f z)[i]? = some (if i < k then f i else z) := by simp [upto, arr_get, hn]
theorem upto_set (n k : Nat) (f : Nat → Value) (z : Value) (hk : k < n) : (upto n k f z).setIfInBounds k (f k) = upto n (k + 1) f z := by
  unfold upto
  rw [arr_set _ _ _ _ hk]
  refine arr_congr fun i hi => ?_
  by_cases h : i = k
  · subst h; simp
  · by_cases h2 : i < k
    · have : i < k + 1 := by omega
      simp [h, h2, this]
    · have : ¬ i < k + 1 := by omega
      simp [h, h2, this]
theorem upto_full (n : Nat) (f : Nat → Value) (z : Value) : upto n n f z = arr n f := arr_congr fun i hi => by simp [hi]
theorem upto_none (n : Nat) (f : Nat → Value) (z : Value) : upto n 0 f z = Array.replicate n z := by
  apply Array.ext_getElem?
  intro i
  rw [upto, arr_get, Array.getElem?_replicate]
  simp

/-! ### The last blocks -/
def cntByte (c i : Nat) : UInt8 := UInt8.ofNat (c / 2 ^ (56 - 8 * i))
def headB (r : Nat → UInt8) (n i : Nat) : UInt8 := if i < n then r i else if i = n then 128 else 0
def tailB (c : Nat) (f : Nat → UInt8) (i : Nat) : UInt8 := if i < 56 then f i else cntByte c (i - 56)
def endBlocks (r : Nat → UInt8) (n c : Nat) : List (Nat → UInt8) := if n < 56 then [tailB c (headB r n)] else [headB r n, tailB c (fun _ => 0)]
/-- A block whose count is filled in up to a place. -/
def tailTo (c k : Nat) (f : Nat → UInt8) (i : Nat) : UInt8 := if 56 ≤ i ∧ i < 56 + k then cntByte c (i - 56) else f i
theorem tailTo_set (c k : Nat) (f : Nat → UInt8) (hk : k < 8) : (arr 64 fun i => bv (tailTo c k f i)).setIfInBounds (56 + k) (bv (cntByte c k)) = arr 64 fun i => bv (tailTo c (k + 1) f i) := by
  rw [arr_set _ _ _ _ (by omega)]
  refine arr_congr fun i _ => ?_
  unfold tailTo
  by_cases h : i = 56 + k
  · subst h
    rw [if_pos rfl, if_pos (by omega), show 56 + k - 56 = k from by omega]
  · rw [if_neg h]
    by_cases h2 : 56 ≤ i ∧ i < 56 + k
    · rw [if_pos h2, if_pos (by omega)]
    · rw [if_neg h2, if_neg (by omega)]
theorem tailTo_8 (c : Nat) (f : Nat → UInt8) (i : Nat) (h : i < 64) : tailTo c 8 f i = tailB c f i := by
  unfold tailTo tailB
  by_cases h2 : i < 56
  · rw [if_neg (by omega), if_pos h2]
  · rw [if_pos (by omega), if_neg h2]
theorem tailTo_0 (c : Nat) (f : Nat → UInt8) (i : Nat) : tailTo c 0 f i = f i := if_neg (by omega)
/-- The walk's spelling of a count's byte. -/
theorem cnt_w (c k : Nat) : IntKind.u8.wrap ((c : Int) / 2 ^ (56 - 8 * k)) = ((cntByte c k).toNat : Int) := by
  rw [IntKind.wrap_u8']
  unfold cntByte
  simp

theorem zero64 : Array.replicate 64 (bv 0) = arr 64 fun _ => bv 0 := by rw [← upto_none 64 (fun _ => bv 0) (bv 0)]; exact arr_congr fun i _ => by simp
/-! ### Parts, one behind the other; the blocks of bytes -/
def pos (ps : List (List UInt8)) (k : Nat) : Nat := (ps.take k).flatten.length
theorem pos_zero (ps : List (List UInt8)) : pos ps 0 = 0 := by simp [pos]
theorem pos_succ (ps : List (List UInt8)) (k : Nat) (h : k < ps.length) : pos ps (k + 1) = pos ps k + (ps.getD k []).length := by
  unfold pos
  rw [List.take_succ_eq_append_getElem h, List.flatten_append, List.length_append, List.getD_eq_getElem?_getD, List.getElem?_eq_getElem h]
  simp
theorem pos_full (ps : List (List UInt8)) : pos ps ps.length = ps.flatten.length := by simp [pos]
theorem flat_at (ps : List (List UInt8)) (k j : Nat) (h : k < ps.length) (hj : j < (ps.getD k []).length) : ps.flatten.getD (pos ps k + j) 0 = (ps.getD k []).getD j 0 := by
  have e : ps.flatten = (ps.take k).flatten ++ (ps.getD k [] ++ (ps.drop (k + 1)).flatten) := by
    conv => lhs; rw [← List.take_append_drop k ps]
    rw [List.flatten_append, List.drop_eq_getElem_cons h, List.flatten_cons, List.getD_eq_getElem?_getD, List.getElem?_eq_getElem h]
    rfl
  rw [e, List.getD_eq_getElem?_getD, List.getElem?_append_right (by unfold pos; omega), show pos ps k + j - (ps.take k).flatten.length = j from by unfold pos; omega, List.getElem?_append_left hj, ← List.getD_eq_getElem?_getD]
theorem pos_le (ps : List (List UInt8)) (k : Nat) (_h : k ≤ ps.length) : pos ps k ≤ ps.flatten.length := by
  unfold pos
  conv => rhs; rw [← List.take_append_drop k ps]
  rw [List.flatten_append, List.length_append]
  omega
def fullBlk (L : List UInt8) (j i : Nat) : UInt8 := L.getD (64 * j + i) 0
def fulls (L : List UInt8) (j : Nat) : List (Nat → UInt8) := (List.range j).map (fullBlk L)
def lasts (L : List UInt8) : List (Nat → UInt8) := endBlocks (fullBlk L (L.length / 64)) (L.length % 64) (L.length * 8)
def allBlocks (L : List UInt8) : List (Nat → UInt8) := fulls L (L.length / 64) ++ lasts L
theorem fulls_succ (L : List UInt8) (j : Nat) : fulls L (j + 1) = fulls L j ++ [fullBlk L j] := by simp [fulls, List.range_succ]
theorem fulls_prefix (L : List UInt8) (j : Nat) (h : j ≤ L.length / 64) : fulls L j <+: allBlocks L := by
  refine List.IsPrefix.trans ?_ (List.prefix_append _ _)
  unfold fulls
  refine ⟨((List.range (L.length / 64)).drop j).map (fullBlk L), ?_⟩
  rw [← List.map_append]
  congr 1
  conv => rhs; rw [← List.take_append_drop j (List.range (L.length / 64))]
  rw [List.take_range, Nat.min_eq_left h]

/-! ### The sum -/
def shaSt (bs : List (Nat → UInt8)) : Nat → W32 := bs.foldl (fun s b => mixed s (wv b)) hAt
theorem shaSt_snoc (bs : List (Nat → UInt8)) (b : Nat → UInt8) : shaSt (bs ++ [b]) = mixed (shaSt bs) (wv b) := by simp [shaSt]
def sha (L : List UInt8) (i : Nat) : UInt8 := idByte (shaSt (allBlocks L)) i
def shaV (L : List UInt8) : Value := .agg (arr 32 fun i => bv (sha L i))

end Go.Proofs.YtkbdkeclbokhdaaDoor
