/- SHA-256 by plain numbers. -/
import Derived.Laws.BitsAllLaws
namespace Go.Proofs.YtkejidmomnmdbaaDoor

/-- x turned to the right by n bits. -/
def rotr (x n : Nat) : Nat := x / 2 ^ n + x % 2 ^ n * 2 ^ (32 - n)

theorem rotr_lt (x n : Nat) (hx : x < 4294967296) (hn : n ≤ 32) : rotr x n < 4294967296 := by
  unfold rotr
  have e : 2 ^ n * 2 ^ (32 - n) = 4294967296 := by rw [← Nat.pow_add, show n + (32 - n) = 32 by omega]
  have p : 0 < 2 ^ n := Nat.two_pow_pos n
  have h1 : x / 2 ^ n < 2 ^ (32 - n) := by rw [Nat.div_lt_iff_lt_mul p, Nat.mul_comm, e]; exact hx
  have h2 : x % 2 ^ n + 1 ≤ 2 ^ n := Nat.mod_lt x p
  have h3 : (x % 2 ^ n + 1) * 2 ^ (32 - n) ≤ 2 ^ n * 2 ^ (32 - n) := Nat.mul_le_mul_right _ h2
  rw [e, Nat.add_mul] at h3
  omega

theorem rotr_zero (x : Nat) : rotr x 0 = x := by simp [rotr, Nat.mod_one]

/-- A turn by one bit more. -/
theorem rotr_succ (x n : Nat) (hn : n < 32) : rotr x (n + 1) = rotr x n / 2 + rotr x n % 2 * 2147483648 := by
  unfold rotr
  have e : 2 ^ (32 - n) = 2 * 2 ^ (31 - n) := by rw [show 32 - n = (31 - n) + 1 by omega, Nat.pow_succ, Nat.mul_comm]
  have e31 : 2 ^ n * 2 ^ (31 - n) = 2147483648 := by rw [← Nat.pow_add, show n + (31 - n) = 31 by omega]
  rw [show 32 - (n + 1) = 31 - n by omega, e]
  have hd : x / 2 ^ (n + 1) = x / 2 ^ n / 2 := by rw [Nat.pow_succ, Nat.div_div_eq_div_mul]
  have hm : x % 2 ^ (n + 1) = x % 2 ^ n + 2 ^ n * (x / 2 ^ n % 2) := by rw [Nat.pow_succ, Nat.mod_mul]
  rw [hd, hm]
  generalize x / 2 ^ n = q
  generalize x % 2 ^ n = r
  generalize 2 ^ (31 - n) = k at *
  have a1 : (q + r * (2 * k)) / 2 = q / 2 + r * k := by
    rw [show r * (2 * k) = 2 * (r * k) by rw [Nat.mul_left_comm]]; omega
  have a2 : (q + r * (2 * k)) % 2 = q % 2 := by
    rw [show r * (2 * k) = 2 * (r * k) by rw [Nat.mul_left_comm]]; omega
  rw [a1, a2, Nat.add_mul, Nat.mul_right_comm, e31, Nat.mul_comm 2147483648]
  omega

theorem or_disjoint (a b i : Nat) (hb : b < 2 ^ i) : a * 2 ^ i ||| b = a * 2 ^ i + b := by
  rw [Nat.mul_comm]; exact (Nat.two_pow_add_eq_or_of_lt hb a).symm

/-- How the machine turns: two shifts and an or. -/
theorem rotr_or (x n : Nat) (hx : x < 4294967296) (h1 : 1 ≤ n) (h2 : n ≤ 31) : (x * 2 ^ (32 - n) % 4294967296) ||| (x / 2 ^ n) = rotr x n := by
  have e : 2 ^ n * 2 ^ (32 - n) = 4294967296 := by rw [← Nat.pow_add, show n + (32 - n) = 32 by omega]
  have e2 : x * 2 ^ (32 - n) % 4294967296 = x % 2 ^ n * 2 ^ (32 - n) := by rw [← e, Nat.mul_mod_mul_right]
  rw [e2, or_disjoint _ _ _ (by rw [Nat.div_lt_iff_lt_mul (Nat.two_pow_pos n), Nat.mul_comm, e]; exact hx)]
  unfold rotr
  omega

theorem word_or (a b c d : Nat) (hb : b < 256) (hc : c < 256) (hd : d < 256) :
    ((a * 16777216 ||| b * 65536) ||| c * 256) ||| d = a * 16777216 + b * 65536 + c * 256 + d := by
  have e1 : a * 16777216 ||| b * 65536 = (a * 256 + b) * 65536 := by
    have := or_disjoint a (b * 65536) 24 (by omega)
    rw [show (2 : Nat) ^ 24 = 16777216 from rfl] at this
    rw [this]; omega
  have e2 : (a * 256 + b) * 65536 ||| c * 256 = ((a * 256 + b) * 256 + c) * 256 := by
    have := or_disjoint (a * 256 + b) (c * 256) 16 (by omega)
    rw [show (2 : Nat) ^ 16 = 65536 from rfl] at this
    rw [this]; omega
  have e3 : ((a * 256 + b) * 256 + c) * 256 ||| d = (((a * 256 + b) * 256 + c) * 256) + d := or_disjoint _ d 8 hd
  rw [e1, e2, e3]; omega

theorem getD_at (l : List Nat) (i : Nat) (h : i < l.length) : l.getD i 0 = l[i] := by simp [List.getD, h]

def s0 (x : Nat) : Nat := (rotr x 7 ^^^ rotr x 18) ^^^ x / 8
def s1 (x : Nat) : Nat := (rotr x 17 ^^^ rotr x 19) ^^^ x / 1024
/-- The i-th word of a block. -/
def w16 (L : List Nat) (i : Nat) : Nat := L.getD (4 * i) 0 * 16777216 + L.getD (4 * i + 1) 0 * 65536 + L.getD (4 * i + 2) 0 * 256 + L.getD (4 * i + 3) 0
/-- The first words of the rounds. -/
def schedTo (L : List Nat) : Nat → List Nat
  | 0 => []
  | n + 1 => schedTo L n ++ [if n < 16 then w16 L n else
      ((((schedTo L n).getD (n - 16) 0 + s0 ((schedTo L n).getD (n - 15) 0)) % 4294967296 + (schedTo L n).getD (n - 7) 0) % 4294967296 + s1 ((schedTo L n).getD (n - 2) 0)) % 4294967296]
theorem schedTo_len (L : List Nat) (n : Nat) : (schedTo L n).length = n := by
  induction n with
  | zero => rfl
  | succ n ih => simp [schedTo, ih]
theorem w16_lt (L : List Nat) (hL : ∀ x ∈ L, x < 256) (i : Nat) : w16 L i < 4294967296 := by
  have h : ∀ j, L.getD j 0 < 256 := by
    intro j
    by_cases hj : j < L.length
    · rw [getD_at _ _ hj]; exact hL _ (List.getElem_mem _)
    · simp [List.getD, List.getElem?_eq_none (Nat.le_of_not_lt hj)]
  unfold w16
  have := h (4 * i); have := h (4 * i + 1); have := h (4 * i + 2); have := h (4 * i + 3)
  omega
theorem schedTo_lt (L : List Nat) (hL : ∀ x ∈ L, x < 256) (n : Nat) : ∀ x ∈ schedTo L n, x < 4294967296 := by
  induction n with
  | zero => intro x hx; cases hx
  | succ n ih =>
    intro x hx
    rcases List.mem_append.1 hx with h | h
    · exact ih x h
    · rw [List.mem_singleton.1 h]
      split
      · exact w16_lt L hL n
      · exact Nat.mod_lt _ (by decide)
theorem xor_lt (a b : Nat) (ha : a < 4294967296) (hb : b < 4294967296) : a ^^^ b < 4294967296 := Nat.xor_lt_two_pow (n := 32) ha hb
theorem and_lt (a b : Nat) (hb : b < 4294967296) : a &&& b < 4294967296 := Nat.and_lt_two_pow (n := 32) a hb
theorem s0_lt (x : Nat) (h : x < 4294967296) : s0 x < 4294967296 := xor_lt _ _ (xor_lt _ _ (rotr_lt x 7 h (by decide)) (rotr_lt x 18 h (by decide))) (by omega)
theorem s1_lt (x : Nat) (h : x < 4294967296) : s1 x < 4294967296 := xor_lt _ _ (xor_lt _ _ (rotr_lt x 17 h (by decide)) (rotr_lt x 19 h (by decide))) (by omega)
theorem take_set_succ (A : List Nat) (k x : Nat) (h : k < A.length) : (A.set k x).take (k + 1) = A.take k ++ [x] := by
  rw [List.take_succ_eq_append_getElem (by simpa using h), List.getElem_set_self, List.take_set_of_le (Nat.le_refl k)]
theorem getD_take (A : List Nat) (k i : Nat) (hi : i < k) (hk : k ≤ A.length) : (A.take k).getD i 0 = A[i]'(by omega) := by
  rw [getD_at _ _ (by simp; omega)]; simp

/-- The rounds' words. -/
def kTab : List Nat := [1116352408, 1899447441, 3049323471, 3921009573, 961987163, 1508970993, 2453635748, 2870763221, 3624381080, 310598401, 607225278, 1426881987, 1925078388, 2162078206, 2614888103, 3248222580, 3835390401, 4022224774, 264347078, 604807628, 770255983, 1249150122, 1555081692, 1996064986, 2554220882, 2821834349, 2952996808, 3210313671, 3336571891, 3584528711, 113926993, 338241895, 666307205, 773529912, 1294757372, 1396182291, 1695183700, 1986661051, 2177026350, 2456956037, 2730485921, 2820302411, 3259730800, 3345764771, 3516065817, 3600352804, 4094571909, 275423344, 430227734, 506948616, 659060556, 883997877, 958139571, 1322822218, 1537002063, 1747873779, 1955562222, 2024104815, 2227730452, 2361852424, 2428436474, 2756734187, 3204031479, 3329325298]
theorem kTab_len : kTab.length = 64 := rfl
theorem kTab_lt : ∀ x ∈ kTab, x < 4294967296 := by decide

def S1 (e : Nat) : Nat := (rotr e 6 ^^^ rotr e 11) ^^^ rotr e 25
def S0 (a : Nat) : Nat := (rotr a 2 ^^^ rotr a 13) ^^^ rotr a 22
def ch (e f g : Nat) : Nat := (e &&& f) ^^^ ((4294967295 - e) &&& g)
def maj (a b c : Nat) : Nat := ((a &&& b) ^^^ (a &&& c)) ^^^ (b &&& c)
theorem S1_lt (x : Nat) (h : x < 4294967296) : S1 x < 4294967296 := xor_lt _ _ (xor_lt _ _ (rotr_lt x 6 h (by decide)) (rotr_lt x 11 h (by decide))) (rotr_lt x 25 h (by decide))
theorem S0_lt (x : Nat) (h : x < 4294967296) : S0 x < 4294967296 := xor_lt _ _ (xor_lt _ _ (rotr_lt x 2 h (by decide)) (rotr_lt x 13 h (by decide))) (rotr_lt x 22 h (by decide))
theorem ch_lt (e f g : Nat) (hf : f < 4294967296) (hg : g < 4294967296) : ch e f g < 4294967296 := xor_lt _ _ (and_lt _ _ hf) (and_lt _ _ hg)
theorem maj_lt (a b c : Nat) (hb : b < 4294967296) (hc : c < 4294967296) : maj a b c < 4294967296 := xor_lt _ _ (xor_lt _ _ (and_lt _ _ hb) (and_lt _ _ hc)) (and_lt _ _ hc)

/-- The eight words of a round. -/
structure V where
  a : Nat
  b : Nat
  c : Nat
  d : Nat
  e : Nat
  f : Nat
  g : Nat
  h : Nat
structure V.ok (v : V) : Prop where
  a : v.a < 4294967296
  b : v.b < 4294967296
  c : v.c < 4294967296
  d : v.d < 4294967296
  e : v.e < 4294967296
  f : v.f < 4294967296
  g : v.g < 4294967296
  h : v.h < 4294967296
def tOf (v : V) (k w : Nat) : Nat := ((((v.h + S1 v.e) % 4294967296 + ch v.e v.f v.g) % 4294967296 + k) % 4294967296 + w) % 4294967296
def uOf (v : V) : Nat := (S0 v.a + maj v.a v.b v.c) % 4294967296
def rnd (v : V) (k w : Nat) : V := ⟨(tOf v k w + uOf v) % 4294967296, v.a, v.b, v.c, (v.d + tOf v k w) % 4294967296, v.e, v.f, v.g⟩
theorem rnd_ok (v : V) (h : v.ok) (k w : Nat) : (rnd v k w).ok := ⟨Nat.mod_lt _ (by decide), h.a, h.b, h.c, Nat.mod_lt _ (by decide), h.e, h.f, h.g⟩
def rounds (v : V) (W : List Nat) : Nat → V
  | 0 => v
  | n + 1 => rnd (rounds v W n) (kTab.getD n 0) (W.getD n 0)
theorem rounds_ok (v : V) (h : v.ok) (W : List Nat) (n : Nat) : (rounds v W n).ok := by
  induction n with
  | zero => exact h
  | succ n ih => exact rnd_ok _ ih _ _
def toV (H : List Nat) : V := ⟨H.getD 0 0, H.getD 1 0, H.getD 2 0, H.getD 3 0, H.getD 4 0, H.getD 5 0, H.getD 6 0, H.getD 7 0⟩
def V.list (v : V) : List Nat := [v.a, v.b, v.c, v.d, v.e, v.f, v.g, v.h]
/-- The words behind a block. -/
def block (H L : List Nat) : List Nat := List.zipWith (fun x y => (x + y) % 4294967296) H (rounds (toV H) (schedTo L 64) 64).list
theorem block_len (H L : List Nat) (h : H.length = 8) : (block H L).length = 8 := by simp [block, V.list, h]

theorem block_lt (H L : List Nat) : ∀ x ∈ block H L, x < 4294967296 := by
  intro x hx
  unfold block at hx
  obtain ⟨i, hi, rfl⟩ := List.mem_iff_getElem.1 hx
  rw [List.getElem_zipWith]
  exact Nat.mod_lt _ (by decide)

/-- The words at first. -/
def hTab : List Nat := [1779033703, 3144134277, 1013904242, 2773480762, 1359893119, 2600822924, 528734635, 1541459225]
/-- One byte more: the words, and what is of no whole block yet. -/
def absorb1 (s : List Nat × List Nat) (x : Nat) : List Nat × List Nat := if s.2.length + 1 = 64 then (block s.1 (s.2 ++ [x]), []) else (s.1, s.2 ++ [x])
def absorb (m : List Nat) : List Nat × List Nat := m.foldl absorb1 (hTab, [])
theorem absorb_snoc (m : List Nat) (x : Nat) : absorb (m ++ [x]) = absorb1 (absorb m) x := by simp [absorb]
theorem snoc_ind {P : List Nat → Prop} (h0 : P []) (h1 : ∀ m x, P m → P (m ++ [x])) (m : List Nat) : P m := by
  have : ∀ l : List Nat, P l.reverse := by
    intro l
    induction l with
    | nil => exact h0
    | cons x l ih => rw [List.reverse_cons]; exact h1 _ _ ih
  have h := this m.reverse
  rwa [List.reverse_reverse] at h
theorem absorb_buf (m : List Nat) : (absorb m).2.length = m.length % 64 := by
  induction m using snoc_ind with
  | h0 => rfl
  | h1 m x ih =>
    rw [absorb_snoc, absorb1]
    split
    · rename_i h; simp only [List.length_nil, List.length_append, List.length_singleton]; omega
    · rename_i h; simp only [List.length_append, List.length_singleton]; omega
theorem absorb_words (m : List Nat) : (absorb m).1.length = 8 := by
  induction m using snoc_ind with
  | h0 => rfl
  | h1 m x ih =>
    rw [absorb_snoc, absorb1]
    split
    · exact block_len _ _ ih
    · exact ih
theorem absorb_lt (m : List Nat) : ∀ x ∈ (absorb m).1, x < 4294967296 := by
  induction m using snoc_ind with
  | h0 => decide
  | h1 m x ih =>
    rw [absorb_snoc, absorb1]
    split
    · exact block_lt _ _
    · exact ih

/-- Letters as numbers. -/
def nats (s : List UInt8) : List Nat := s.map (·.toNat)
theorem nats_len (s : List UInt8) : (nats s).length = s.length := by simp [nats]
theorem nats_take_succ (s : List UInt8) (k : Nat) (h : k < s.length) : nats (s.take (k + 1)) = nats (s.take k) ++ [s[k].toNat] := by
  rw [List.take_succ_eq_append_getElem h]; simp only [nats, List.map_append, List.map_cons, List.map_nil]
/-- How many noughts there are behind the byte 80. -/
def zeros (n : Nat) : Nat := (119 - n % 64) % 64
/-- How many bits there were, in eight bytes, the highest first. -/
def lenBytes (n k : Nat) : List Nat := (List.range k).map fun i => n * 8 / 2 ^ (8 * (7 - i)) % 256
theorem lenBytes_succ (n k : Nat) : lenBytes n (k + 1) = lenBytes n k ++ [n * 8 / 2 ^ (8 * (7 - k)) % 256] := by simp [lenBytes, List.range_succ]
theorem lenBytes_len (n k : Nat) : (lenBytes n k).length = k := by simp [lenBytes]
/-- The bytes, and what follows them. -/
def padded (m : List Nat) : List Nat := m ++ [128] ++ List.replicate (zeros m.length) 0 ++ lenBytes m.length 8

/-- The words' bytes, the highest first. -/
def outTo (H : List Nat) (k : Nat) : List Nat := (List.range k).map fun i => H.getD (i / 4) 0 / 2 ^ (8 * (3 - i % 4)) % 256
theorem outTo_succ (H : List Nat) (k : Nat) : outTo H (k + 1) = outTo H k ++ [H.getD (k / 4) 0 / 2 ^ (8 * (3 - k % 4)) % 256] := by simp [outTo, List.range_succ]
theorem outTo_len (H : List Nat) (k : Nat) : (outTo H k).length = k := by simp [outTo]
/-- The digest of bytes. -/
def sha (m : List Nat) : List Nat := outTo (absorb (padded m)).1 32
theorem sha_len (m : List Nat) : (sha m).length = 32 := outTo_len _ _
theorem nats_app (a b : List UInt8) : nats (a ++ b) = nats a ++ nats b := by simp [nats]

end Go.Proofs.YtkejidmomnmdbaaDoor
