/- SHA-256, plain: words as BitVec 32, the state, the schedule, the blocks, the padding, the shaL; and how the model's numbers read as words. -/
import Derived.WalkKit
import Derived.Laws.BitsLemmas
namespace Go.Proofs.YtgpkngiakhdmhaaDoor
namespace Sha
/-- A wrd as the model holds it. -/
def wi (x : BitVec 32) : Int := (x.toNat : Int)
def wv (x : BitVec 32) : Value := .int .u32 (wi x)
theorem ofInt_wi (x : BitVec 32) : BitVec.ofInt 32 (wi x) = x := by unfold wi; simp
theorem wi_ofInt (n : Int) (h0 : 0 ≤ n) (h1 : n < 4294967296) : wi (BitVec.ofInt 32 n) = n := by
  unfold wi
  rw [BitVec.toNat_ofInt]
  simp
  omega
theorem wrap_wi (n : Int) : IntKind.u32.wrap n = wi (BitVec.ofInt 32 n) := by
  rw [IntKind.wrap_u32]
  unfold wi
  rw [BitVec.toNat_ofInt]
  simp
  omega
theorem wrap_toNat (x : BitVec 32) : IntKind.u32.wrap (x.toNat : Int) = wi x := by
  rw [IntKind.wrap_u32]
  have := x.isLt
  unfold wi
  omega
theorem bits_and (x y : BitVec 32) : bits .and .u32 (wi x) (wi y) = wi (x &&& y) := by
  show IntKind.u32.wrap _ = _
  simp only [IntKind.bits]
  rw [ofInt_wi, ofInt_wi, wrap_toNat]
  rfl
theorem bits_or (x y : BitVec 32) : bits .or .u32 (wi x) (wi y) = wi (x ||| y) := by
  show IntKind.u32.wrap _ = _
  simp only [IntKind.bits]
  rw [ofInt_wi, ofInt_wi, wrap_toNat]
  rfl
theorem bits_xor (x y : BitVec 32) : bits .xor .u32 (wi x) (wi y) = wi (x ^^^ y) := by
  show IntKind.u32.wrap _ = _
  simp only [IntKind.bits]
  rw [ofInt_wi, ofInt_wi, wrap_toNat]
  rfl
theorem add_wi (x y : BitVec 32) : (wi x + wi y) % 4294967296 = wi (x + y) := by
  unfold wi
  rw [BitVec.toNat_add]
  omega
theorem shr_wi (x : BitVec 32) (n : Nat) : wi x / 2 ^ n = wi (x >>> n) := by
  unfold wi
  rw [BitVec.toNat_ushiftRight, Nat.shiftRight_eq_div_pow]
  simp
theorem shl_wi (x : BitVec 32) (n : Nat) : (wi x * 2 ^ n) % 4294967296 = wi (x <<< n) := by
  unfold wi
  rw [BitVec.toNat_shiftLeft, Nat.shiftLeft_eq]
  simp
theorem max_wi : IntKind.u32.max = wi (BitVec.allOnes 32) := by decide
theorem bits_not (x : BitVec 32) : bits .xor .u32 IntKind.u32.max (wi x) = wi (~~~x) := by
  rw [max_wi, bits_xor, BitVec.allOnes_xor]
theorem mod_wi (n : Int) : n % 4294967296 = wi (BitVec.ofInt 32 n) := by rw [← IntKind.wrap_u32, wrap_wi]
theorem ofInt_sum (a b : Int) : BitVec.ofInt 32 (a + b) = BitVec.ofInt 32 a + BitVec.ofInt 32 b := BitVec.ofInt_add a b
def rotr (x : BitVec 32) (n : Nat) : BitVec 32 := (x >>> n) ||| (x <<< (32 - n))
def s0 (x : BitVec 32) : BitVec 32 := rotr x 7 ^^^ rotr x 18 ^^^ (x >>> 3)
def s1 (x : BitVec 32) : BitVec 32 := rotr x 17 ^^^ rotr x 19 ^^^ (x >>> 10)
def S0 (x : BitVec 32) : BitVec 32 := rotr x 2 ^^^ rotr x 13 ^^^ rotr x 22
def S1 (x : BitVec 32) : BitVec 32 := rotr x 6 ^^^ rotr x 11 ^^^ rotr x 25
def ch (e f g : BitVec 32) : BitVec 32 := (e &&& f) ||| (~~~e &&& g)
def maj (a b c : BitVec 32) : BitVec 32 := (a &&& b) ||| (a &&& c) ||| (b &&& c)
/-- The letters a to h. -/
structure St where
  a : BitVec 32
  b : BitVec 32
  c : BitVec 32
  d : BitVec 32
  e : BitVec 32
  f : BitVec 32
  g : BitVec 32
  h : BitVec 32
def St.ws (s : St) : List (BitVec 32) := [s.a, s.b, s.c, s.d, s.e, s.f, s.g, s.h]
def St.vs (s : St) : List Value := s.ws.map wv
theorem St.ws_len (s : St) : s.ws.length = 8 := rfl
theorem St.vs_len (s : St) : s.vs.length = 8 := rfl
def st0 : St := ⟨0x6a09e667#32, 0xbb67ae85#32, 0x3c6ef372#32, 0xa54ff53a#32, 0x510e527f#32, 0x9b05688c#32, 0x1f83d9ab#32, 0x5be0cd19#32⟩
def kk : List (BitVec 32) := [
  0x428a2f98#32, 0x71374491#32, 0xb5c0fbcf#32, 0xe9b5dba5#32, 0x3956c25b#32, 0x59f111f1#32, 0x923f82a4#32, 0xab1c5ed5#32,
  0xd807aa98#32, 0x12835b01#32, 0x243185be#32, 0x550c7dc3#32, 0x72be5d74#32, 0x80deb1fe#32, 0x9bdc06a7#32, 0xc19bf174#32,
  0xe49b69c1#32, 0xefbe4786#32, 0x0fc19dc6#32, 0x240ca1cc#32, 0x2de92c6f#32, 0x4a7484aa#32, 0x5cb0a9dc#32, 0x76f988da#32,
  0x983e5152#32, 0xa831c66d#32, 0xb00327c8#32, 0xbf597fc7#32, 0xc6e00bf3#32, 0xd5a79147#32, 0x06ca6351#32, 0x14292967#32,
  0x27b70a85#32, 0x2e1b2138#32, 0x4d2c6dfc#32, 0x53380d13#32, 0x650a7354#32, 0x766a0abb#32, 0x81c2c92e#32, 0x92722c85#32,
  0xa2bfe8a1#32, 0xa81a664b#32, 0xc24b8b70#32, 0xc76c51a3#32, 0xd192e819#32, 0xd6990624#32, 0xf40e3585#32, 0x106aa070#32,
  0x19a4c116#32, 0x1e376c08#32, 0x2748774c#32, 0x34b0bcb5#32, 0x391c0cb3#32, 0x4ed8aa4a#32, 0x5b9cca4f#32, 0x682e6ff3#32,
  0x748f82ee#32, 0x78a5636f#32, 0x84c87814#32, 0x8cc70208#32, 0x90befffa#32, 0xa4506ceb#32, 0xbef9a3f7#32, 0xc67178f2#32]
/-- One round; i is kt + wt. -/
def rstep (s : St) (i : BitVec 32) : St :=
  let t1 := s.h + S1 s.e + ch s.e s.f s.g + i
  ⟨t1 + (S0 s.a + maj s.a s.b s.c), s.a, s.b, s.c, s.d + t1, s.e, s.f, s.g⟩
/-- A wrd of a blk of bytes. -/
def wrd (p : List Int) (t : Nat) : BitVec 32 :=
  BitVec.ofInt 32 (((p.getD (4 * t) 0 * 256 + p.getD (4 * t + 1) 0) * 256 + p.getD (4 * t + 2) 0) * 256 + p.getD (4 * t + 3) 0)
/-- The nxt wrd of the schedule. -/
def nxt (p : List Int) (ws : List (BitVec 32)) : BitVec 32 :=
  if ws.length < 16 then wrd p ws.length
  else s1 (ws.getD (ws.length - 2) 0) + ws.getD (ws.length - 7) 0 + s0 (ws.getD (ws.length - 15) 0) + ws.getD (ws.length - 16) 0
def sch (p : List Int) : Nat → List (BitVec 32)
  | 0 => []
  | n + 1 => sch p n ++ [nxt p (sch p n)]
theorem sch_len (p : List Int) : ∀ n, (sch p n).length = n
  | 0 => rfl
  | n + 1 => by rw [sch, List.length_append, sch_len p n]; rfl
/-- The letters behind t rounds. -/
def rnd (ws : List (BitVec 32)) (s : St) : Nat → St
  | 0 => s
  | t + 1 => rstep (rnd ws s t) (kk.getD t 0 + ws.getD t 0)
def St.add (s v : St) : St := ⟨s.a + v.a, s.b + v.b, s.c + v.c, s.d + v.d, s.e + v.e, s.f + v.f, s.g + v.g, s.h + v.h⟩
def blk (s : St) (p : List Int) : St := s.add (rnd (sch p 64) s 64)
/-- The state behind n blocks of a message. -/
def blks (m : List Int) : Nat → St
  | 0 => st0
  | n + 1 => blk (blks m n) ((m.drop (64 * n)).take 64)
/-- A wrd's four bytes. -/
def be4 (x : BitVec 32) : List Int := [wi (x >>> 24) % 256, wi (x >>> 16) % 256, wi (x >>> 8) % 256, wi x % 256]
def St.out (s : St) : List Int := s.ws.flatMap be4
/-- A number's eight bytes. -/
def be8 (n : Int) : List Int := [n / 72057594037927936 % 256, n / 281474976710656 % 256, n / 1099511627776 % 256, n / 4294967296 % 256, n / 16777216 % 256, n / 65536 % 256, n / 256 % 256, n % 256]
theorem be8_len (n : Int) : (be8 n).length = 8 := rfl
/-- How many zeros stand behind the stop. -/
def zs (n : Nat) : Nat := (119 - n % 64) % 64
def pad (l : List Int) : List Int := l ++ 128 :: (List.replicate (zs l.length) 0 ++ be8 (8 * l.length))
def shaL (l : List Int) : List Int := (blks (pad l) ((pad l).length / 64)).out
theorem out_len (s : St) : s.out.length = 32 := rfl
theorem shaL_len (l : List Int) : (shaL l).length = 32 := rfl
theorem be4_byt (x : BitVec 32) : ∀ b ∈ be4 x, 0 ≤ b ∧ b ≤ 255 := by
  intro b hb
  simp only [be4, List.mem_cons, List.not_mem_nil, or_false] at hb
  rcases hb with rfl | rfl | rfl | rfl <;> omega
theorem out_byt (s : St) : ∀ b ∈ s.out, 0 ≤ b ∧ b ≤ 255 := by
  intro b hb
  obtain ⟨x, _, hx⟩ := List.mem_flatMap.1 hb
  exact be4_byt x b hx
theorem pad_len (l : List Int) : (pad l).length = 64 * ((l.length + 8) / 64 + 1) := by
  simp only [pad, List.length_append, List.length_cons, List.length_replicate, be8_len, zs]
  omega
theorem blks_app (l x : List Int) : ∀ n, 64 * n ≤ l.length → blks (l ++ x) n = blks l n
  | 0, _ => rfl
  | n + 1, h => by
    simp only [blks]
    rw [blks_app l x n (by omega)]
    congr 1
    rw [List.drop_append_of_le_length (by omega), List.take_append_of_le_length (by simp; omega)]
end Sha
end Go.Proofs.YtgpkngiakhdmhaaDoor
