/- Ballots, plain: the numbers of clusters, places, orders, the turned order; nothing of any program. -/
import Derived.WalkKit
import Derived.Laws.BitsLemmas
section
namespace Go.Proofs.YtgjepofinpmcpaaGreatDoor
namespace Sha

/-- A wrd as the model holds it. -/
def wi (x : BitVec 32) : Int := (x.toNat : Int)
def wv (x : BitVec 32) : Value := .int .u32 (wi x)

theorem wi_lo (x : BitVec 32) : 0 ≤ wi x := Int.natCast_nonneg _
theorem wi_hi (x : BitVec 32) : wi x < 4294967296 := by have := x.isLt; unfold wi; omega
theorem ofInt_wi (x : BitVec 32) : BitVec.ofInt 32 (wi x) = x := by unfold wi; simp
theorem wi_ofInt (n : Int) (h0 : 0 ≤ n) (h1 : n < 4294967296) : wi (BitVec.ofInt 32 n) = n := by
  unfold wi
  rw [BitVec.toNat_ofInt]
  simp
  omega
theorem wrap_wi (n : Int) : IntKind.u32.wrap n = wi (BitVec.ofInt 32 n) := by
  rw [IntKind.wrap_u32]
  unfold wi
  rw [BitVec.toNat_ofInt]
  simp
  omega
theorem wrap_toNat (x : BitVec 32) : IntKind.u32.wrap (x.toNat : Int) = wi x := by
  rw [IntKind.wrap_u32]
  have := x.isLt
  unfold wi
  omega

theorem bits_and (x y : BitVec 32) : bits .and .u32 (wi x) (wi y) = wi (x &&& y) := by
  show IntKind.u32.wrap _ = _
  simp only [IntKind.bits]
  rw [ofInt_wi, ofInt_wi, wrap_toNat]
  rfl
theorem bits_or (x y : BitVec 32) : bits .or .u32 (wi x) (wi y) = wi (x ||| y) := by
  show IntKind.u32.wrap _ = _
  simp only [IntKind.bits]
  rw [ofInt_wi, ofInt_wi, wrap_toNat]
  rfl
theorem bits_xor (x y : BitVec 32) : bits .xor .u32 (wi x) (wi y) = wi (x ^^^ y) := by
  show IntKind.u32.wrap _ = _
  simp only [IntKind.bits]
  rw [ofInt_wi, ofInt_wi, wrap_toNat]
  rfl
theorem add_wi (x y : BitVec 32) : (wi x + wi y) % 4294967296 = wi (x + y) := by
  unfold wi
  rw [BitVec.toNat_add]
  omega
theorem not_wi (x : BitVec 32) : 4294967295 - wi x = wi (~~~x) := by
  have := x.isLt
  unfold wi
  rw [BitVec.toNat_not]
  omega
theorem shr_wi (x : BitVec 32) (n : Nat) : wi x / 2 ^ n = wi (x >>> n) := by
  unfold wi
  rw [BitVec.toNat_ushiftRight, Nat.shiftRight_eq_div_pow]
  simp
theorem shl_wi (x : BitVec 32) (n : Nat) : (wi x * 2 ^ n) % 4294967296 = wi (x <<< n) := by
  unfold wi
  rw [BitVec.toNat_shiftLeft, Nat.shiftLeft_eq]
  simp

theorem max_wi : IntKind.u32.max = wi (BitVec.allOnes 32) := by decide
theorem bits_not (x : BitVec 32) : bits .xor .u32 IntKind.u32.max (wi x) = wi (~~~x) := by
  rw [max_wi, bits_xor, BitVec.allOnes_xor]
theorem bits_not' (x : BitVec 32) : bits .xor .u32 (wi x) 4294967295 = wi (~~~x) := by
  rw [show (4294967295 : Int) = wi (BitVec.allOnes 32) by decide, bits_xor, BitVec.xor_allOnes]
theorem mod_wi (n : Int) : n % 4294967296 = wi (BitVec.ofInt 32 n) := by rw [← IntKind.wrap_u32, wrap_wi]
theorem ofInt_sum (a b : Int) : BitVec.ofInt 32 (a + b) = BitVec.ofInt 32 a + BitVec.ofInt 32 b := BitVec.ofInt_add a b

def rotr (x : BitVec 32) (n : Nat) : BitVec 32 := (x >>> n) ||| (x <<< (32 - n))
def s0 (x : BitVec 32) : BitVec 32 := rotr x 7 ^^^ rotr x 18 ^^^ (x >>> 3)
def s1 (x : BitVec 32) : BitVec 32 := rotr x 17 ^^^ rotr x 19 ^^^ (x >>> 10)
def S0 (x : BitVec 32) : BitVec 32 := rotr x 2 ^^^ rotr x 13 ^^^ rotr x 22
def S1 (x : BitVec 32) : BitVec 32 := rotr x 6 ^^^ rotr x 11 ^^^ rotr x 25
def ch (e f g : BitVec 32) : BitVec 32 := (e &&& f) ||| (~~~e &&& g)
def maj (a b c : BitVec 32) : BitVec 32 := (a &&& b) ||| (a &&& c) ||| (b &&& c)

/-- The letters a to h. -/
structure St where
  a : BitVec 32
  b : BitVec 32
  c : BitVec 32
  d : BitVec 32
  e : BitVec 32
  f : BitVec 32
  g : BitVec 32
  h : BitVec 32

def St.ws (s : St) : List (BitVec 32) := [s.a, s.b, s.c, s.d, s.e, s.f, s.g, s.h]
def St.vs (s : St) : List Value := s.ws.map wv
theorem St.ws_len (s : St) : s.ws.length = 8 := rfl
theorem St.vs_len (s : St) : s.vs.length = 8 := rfl

def st0 : St := ⟨0x6a09e667#32, 0xbb67ae85#32, 0x3c6ef372#32, 0xa54ff53a#32, 0x510e527f#32, 0x9b05688c#32, 0x1f83d9ab#32, 0x5be0cd19#32⟩

def kk : List (BitVec 32) := [
  0x428a2f98#32, 0x71374491#32, 0xb5c0fbcf#32, 0xe9b5dba5#32, 0x3956c25b#32, 0x59f111f1#32, 0x923f82a4#32, 0xab1c5ed5#32,
  0xd807aa98#32, 0x12835b01#32, 0x243185be#32, 0x550c7dc3#32, 0x72be5d74#32, 0x80deb1fe#32, 0x9bdc06a7#32, 0xc19bf174#32,
  0xe49b69c1#32, 0xefbe4786#32, 0x0fc19dc6#32, 0x240ca1cc#32, 0x2de92c6f#32, 0x4a7484aa#32, 0x5cb0a9dc#32, 0x76f988da#32,
  0x983e5152#32, 0xa831c66d#32, 0xb00327c8#32, 0xbf597fc7#32, 0xc6e00bf3#32, 0xd5a79147#32, 0x06ca6351#32, 0x14292967#32,
  0x27b70a85#32, 0x2e1b2138#32, 0x4d2c6dfc#32, 0x53380d13#32, 0x650a7354#32, 0x766a0abb#32, 0x81c2c92e#32, 0x92722c85#32,
  0xa2bfe8a1#32, 0xa81a664b#32, 0xc24b8b70#32, 0xc76c51a3#32, 0xd192e819#32, 0xd6990624#32, 0xf40e3585#32, 0x106aa070#32,
  0x19a4c116#32, 0x1e376c08#32, 0x2748774c#32, 0x34b0bcb5#32, 0x391c0cb3#32, 0x4ed8aa4a#32, 0x5b9cca4f#32, 0x682e6ff3#32,
  0x748f82ee#32, 0x78a5636f#32, 0x84c87814#32, 0x8cc70208#32, 0x90befffa#32, 0xa4506ceb#32, 0xbef9a3f7#32, 0xc67178f2#32]
theorem kk_len : kk.length = 64 := rfl

/-- One round; i is kt + wt. -/
def rstep (s : St) (i : BitVec 32) : St :=
  let t1 := s.h + S1 s.e + ch s.e s.f s.g + i
  ⟨t1 + (S0 s.a + maj s.a s.b s.c), s.a, s.b, s.c, s.d + t1, s.e, s.f, s.g⟩

/-- A wrd of a blk of bytes. -/
def wrd (p : List Int) (t : Nat) : BitVec 32 :=
  BitVec.ofInt 32 (((p.getD (4 * t) 0 * 256 + p.getD (4 * t + 1) 0) * 256 + p.getD (4 * t + 2) 0) * 256 + p.getD (4 * t + 3) 0)

/-- The nxt wrd of the schedule. -/
def nxt (p : List Int) (ws : List (BitVec 32)) : BitVec 32 :=
  if ws.length < 16 then wrd p ws.length
  else s1 (ws.getD (ws.length - 2) 0) + ws.getD (ws.length - 7) 0 + s0 (ws.getD (ws.length - 15) 0) + ws.getD (ws.length - 16) 0
def sch (p : List Int) : Nat → List (BitVec 32)
  | 0 => []
  | n + 1 => sch p n ++ [nxt p (sch p n)]
theorem sch_len (p : List Int) : ∀ n, (sch p n).length = n
  | 0 => rfl
  | n + 1 => by rw [sch, List.length_append, sch_len p n]; rfl

/-- The letters behind t rounds. -/
def rnd (ws : List (BitVec 32)) (s : St) : Nat → St
  | 0 => s
  | t + 1 => rstep (rnd ws s t) (kk.getD t 0 + ws.getD t 0)
def St.add (s v : St) : St := ⟨s.a + v.a, s.b + v.b, s.c + v.c, s.d + v.d, s.e + v.e, s.f + v.f, s.g + v.g, s.h + v.h⟩
def blk (s : St) (p : List Int) : St := s.add (rnd (sch p 64) s 64)

/-- The state behind n blocks of a message. -/
def blks (m : List Int) : Nat → St
  | 0 => st0
  | n + 1 => blk (blks m n) ((m.drop (64 * n)).take 64)

/-- A wrd's four bytes. -/
def be4 (x : BitVec 32) : List Int := [wi (x >>> 24) % 256, wi (x >>> 16) % 256, wi (x >>> 8) % 256, wi x % 256]
def St.out (s : St) : List Int := s.ws.flatMap be4

/-- A number's eight bytes. -/
def be8 (n : Int) : List Int := [n / 72057594037927936 % 256, n / 281474976710656 % 256, n / 1099511627776 % 256, n / 4294967296 % 256, n / 16777216 % 256, n / 65536 % 256, n / 256 % 256, n % 256]
theorem be8_len (n : Int) : (be8 n).length = 8 := rfl
/-- How many zeros stand behind the stop. -/
def zs (n : Nat) : Nat := (119 - n % 64) % 64
def pad (l : List Int) : List Int := l ++ 128 :: (List.replicate (zs l.length) 0 ++ be8 (8 * l.length))
def shaL (l : List Int) : List Int := (blks (pad l) ((pad l).length / 64)).out

theorem out_len (s : St) : s.out.length = 32 := rfl
theorem shaL_len (l : List Int) : (shaL l).length = 32 := rfl
theorem be4_byt (x : BitVec 32) : ∀ b ∈ be4 x, 0 ≤ b ∧ b ≤ 255 := by
  intro b hb
  simp only [be4, List.mem_cons, List.not_mem_nil, or_false] at hb
  rcases hb with rfl | rfl | rfl | rfl <;> omega
theorem out_byt (s : St) : ∀ b ∈ s.out, 0 ≤ b ∧ b ≤ 255 := by
  intro b hb
  obtain ⟨x, _, hx⟩ := List.mem_flatMap.1 hb
  exact be4_byt x b hx
theorem pad_len (l : List Int) : (pad l).length = 64 * ((l.length + 8) / 64 + 1) := by
  simp only [pad, List.length_append, List.length_cons, List.length_replicate, be8_len, zs]
  omega

theorem blks_app (l x : List Int) : ∀ n, 64 * n ≤ l.length → blks (l ++ x) n = blks l n
  | 0, _ => rfl
  | n + 1, h => by
    simp only [blks]
    rw [blks_app l x n (by omega)]
    congr 1
    rw [List.drop_append_of_le_length (by omega), List.take_append_of_le_length (by simp; omega)]

end Sha
end Go.Proofs.YtgjepofinpmcpaaGreatDoor
end

section
namespace Go.Proofs.YtgjepofinpmcpaaGreatDoor
namespace Bal

/-- f of n = 3 f + 1; else 0. -/
def fau (n : Int) : Int := if n = 4 then 1 else if n = 7 then 2 else if n = 10 then 3 else if n = 13 then 4 else if n = 16 then 5 else 0
def rgt (n : Int) : Bool := decide (n = 4 ∨ n = 7 ∨ n = 10 ∨ n = 13 ∨ n = 16)
def quo (n : Int) : Int := if rgt n = true then 2 * fau n + 1 else 0
def wea (n : Int) : Int := if rgt n = true then fau n + 1 else 0
theorem rgt_iff {n : Int} : rgt n = true ↔ (n = 4 ∨ n = 7 ∨ n = 10 ∨ n = 13 ∨ n = 16) := by simp [rgt]
theorem rgt_no {n : Int} (h : ¬ rgt n = true) : rgt n = false := by simpa using h
theorem fau_pos {n : Int} : 0 < fau n ↔ rgt n = true := by
  rw [rgt_iff]
  unfold fau
  constructor
  · intro h
    repeat' split at h
    all_goals omega
  · intro h
    rcases h with rfl | rfl | rfl | rfl | rfl <;> decide
theorem fau_no {n : Int} (h : ¬ rgt n = true) : fau n = 0 := by
  rw [rgt_iff] at h
  unfold fau
  repeat' split
  all_goals omega
theorem fau_three {n : Int} (h : rgt n = true) : n = 3 * fau n + 1 := by
  rw [rgt_iff] at h
  rcases h with rfl | rfl | rfl | rfl | rfl <;> decide
theorem fau_five {n : Int} : 0 ≤ fau n ∧ fau n ≤ 5 := by
  unfold fau
  repeat' split
  all_goals omega
theorem quo_yes {n : Int} (h : rgt n = true) : quo n = 2 * fau n + 1 := by rw [quo, if_pos h]
theorem quo_no {n : Int} (h : ¬ rgt n = true) : quo n = 0 := by rw [quo, if_neg h]
theorem wea_yes {n : Int} (h : rgt n = true) : wea n = fau n + 1 := by rw [wea, if_pos h]
theorem wea_no {n : Int} (h : ¬ rgt n = true) : wea n = 0 := by rw [wea, if_neg h]
theorem rgt_le {n : Int} (h : rgt n = true) : 4 ≤ n ∧ n ≤ 16 := by
  rw [rgt_iff] at h
  omega
theorem fau_ge {n : Int} (h : rgt n = true) : 1 ≤ fau n := by
  have := fau_pos.2 h
  omega

/-- Which of two pairs is lower. -/
def cm (x y : Int) : Int := if x < y then -1 else if y < x then 1 else 0
def cmp2 (a b c d : Int) : Int := if a = c then cm b d else cm a c
theorem cm_neg (x y : Int) : cm y x = - cm x y := by
  unfold cm
  repeat' split
  all_goals omega
theorem cm_bd (x y : Int) : -1 ≤ cm x y ∧ cm x y ≤ 1 := by
  unfold cm
  repeat' split
  all_goals omega
theorem cm_zero (x y : Int) : cm x y = 0 ↔ x = y := by
  unfold cm
  repeat' split
  all_goals omega
theorem cmp2_neg (a b c d : Int) : cmp2 c d a b = - cmp2 a b c d := by
  unfold cmp2
  by_cases h : a = c
  · rw [if_pos h, if_pos h.symm]; exact cm_neg _ _
  · rw [if_neg h, if_neg (fun e => h e.symm)]; exact cm_neg _ _
theorem cmp2_bd (a b c d : Int) : -1 ≤ cmp2 a b c d ∧ cmp2 a b c d ≤ 1 := by
  unfold cmp2
  split <;> exact cm_bd _ _
theorem cmp2_zero (a b c d : Int) : cmp2 a b c d = 0 ↔ a = c ∧ b = d := by
  unfold cmp2
  split
  · rename_i h; rw [cm_zero]; simp [h]
  · rename_i h; rw [cm_zero]; simp [h]
theorem cmp2_self (a b : Int) : cmp2 a b a b = 0 := (cmp2_zero a b a b).2 ⟨rfl, rfl⟩
theorem cmp2_trans (a b c d e f : Int) (h1 : cmp2 a b c d ≤ 0) (h2 : cmp2 c d e f ≤ 0) : cmp2 a b e f ≤ 0 ∧ (cmp2 a b e f = 0 ↔ cmp2 a b c d = 0 ∧ cmp2 c d e f = 0) := by
  unfold cmp2 cm at *
  repeat' split at h1
  all_goals repeat' split at h2
  all_goals repeat' split
  all_goals omega

/-- View modulo n. -/
def hed (v n : Int) : Int := if rgt n = true ∧ 0 ≤ v then v % n else -1
theorem hed_yes {v n : Int} (h : rgt n = true) (h0 : 0 ≤ v) : hed v n = v % n := by rw [hed, if_pos ⟨h, h0⟩]
theorem hed_no {v n : Int} (h : ¬ (rgt n = true ∧ 0 ≤ v)) : hed v n = -1 := by rw [hed, if_neg h]
theorem hed_bd {v n : Int} (h : rgt n = true) : 0 ≤ v % n ∧ v % n < n := by
  have := rgt_le h
  exact ⟨Int.emod_nonneg _ (by omega), Int.emod_lt_of_pos _ (by omega)⟩

/-- The first place of r. -/
def plc : List Int → Int → Int
  | [], _ => -1
  | x :: l, r => if x = r then 0 else if plc l r = -1 then -1 else plc l r + 1
theorem plc_lo (l : List Int) (r : Int) : -1 ≤ plc l r := by
  induction l with
  | nil => simp [plc]
  | cons x l ih => unfold plc; repeat' split
                   all_goals omega
theorem plc_none {l : List Int} {r : Int} : plc l r = -1 ↔ r ∉ l := by
  induction l with
  | nil => simp [plc]
  | cons x l ih =>
    unfold plc
    have := plc_lo l r
    by_cases h : x = r
    · simp [h]
    · by_cases h2 : plc l r = -1
      · rw [if_neg h, if_pos h2]
        have := ih.1 h2
        simp only [List.mem_cons, not_or, true_iff]
        exact ⟨fun e => h e.symm, this⟩
      · rw [if_neg h, if_neg h2]
        constructor
        · intro e; omega
        · intro e
          exact absurd (ih.2 (fun hm => e (by simp [hm]))) h2
/-- The first place is where it is told by a walk: none ahead of k is r, the k-th is. -/
theorem plc_hit {l : List Int} {r : Int} {k : Nat} (hk : l[k]? = some r) (hn : r ∉ l.take k) : plc l r = k := by
  induction l generalizing k with
  | nil => simp at hk
  | cons x l ih =>
    cases k with
    | zero => simp at hk; subst hk; simp [plc]
    | succ k =>
      simp at hk hn
      have e := ih hk hn.2
      unfold plc
      rw [if_neg (fun e => hn.1 e.symm), if_neg (by omega), e]
      omega
theorem plc_get {l : List Int} {r : Int} (h : plc l r ≠ -1) : ∃ k : Nat, plc l r = k ∧ l[k]? = some r ∧ r ∉ l.take k := by
  induction l with
  | nil => simp [plc] at h
  | cons x l ih =>
    by_cases hx : x = r
    · exact ⟨0, by simp [plc, hx], by simp [hx], by simp⟩
    · have h2 : plc l r ≠ -1 := fun e => h (by unfold plc; rw [if_neg hx, if_pos e])
      obtain ⟨k, h3, h4, h5⟩ := ih h2
      refine ⟨k + 1, ?_, by simpa using h4, ?_⟩
      · unfold plc; rw [if_neg hx, if_neg h2, h3]; omega
      · simp only [List.take_succ_cons, List.mem_cons, not_or]
        exact ⟨fun e => hx e.symm, h5⟩

/-- 0, 1, .. n - 1. -/
def rng (n : Nat) : List Int := (List.range n).map Int.ofNat
theorem rng_len (n : Nat) : (rng n).length = n := by simp [rng]
theorem mem_rng {n : Nat} {r : Int} : r ∈ rng n ↔ 0 ≤ r ∧ r < n := by
  simp only [rng, List.mem_map, List.mem_range]
  constructor
  · rintro ⟨k, hk, rfl⟩; simp; omega
  · intro h; exact ⟨r.toNat, by omega, by simp; omega⟩
theorem rng_nodup (n : Nat) : (rng n).Nodup := by
  unfold rng
  rw [List.Nodup, List.pairwise_map]
  exact List.nodup_range.imp fun h e => h (Int.ofNat.inj e)

theorem perm_of_sub : ∀ (s l : List Int), s.Nodup → (∀ x ∈ s, x ∈ l) → l.length ≤ s.length → l.Perm s
  | [], l, _, _, h => by
    have : l = [] := List.eq_nil_of_length_eq_zero (by simpa using h)
    subst this; exact List.Perm.refl _
  | x :: s, l, hn, hs, h => by
    have hx : x ∈ l := hs x (by simp)
    have hp := List.perm_cons_erase hx
    rw [List.nodup_cons] at hn
    refine hp.trans (List.Perm.cons x (perm_of_sub s (l.erase x) hn.2 (fun y hy => ?_) ?_))
    · have hy' : y ≠ x := fun e => hn.1 (e ▸ hy)
      exact (List.mem_erase_of_ne hy').2 (hs y (by simp [hy]))
    · rw [List.length_erase_of_mem hx]
      simp at h
      omega
theorem len_of_sub : ∀ (s l : List Int), s.Nodup → (∀ x ∈ s, x ∈ l) → s.length ≤ l.length
  | [], l, _, _ => by simp
  | x :: s, l, hn, hs => by
    have hx : x ∈ l := hs x (by simp)
    rw [List.nodup_cons] at hn
    have := len_of_sub s (l.erase x) hn.2 (fun y hy => by
      have hy' : y ≠ x := fun e => hn.1 (e ▸ hy)
      exact (List.mem_erase_of_ne hy').2 (hs y (by simp [hy])))
    rw [List.length_erase_of_mem hx] at this
    have hl : 0 < l.length := List.length_pos_of_mem hx
    simp
    omega

/-- An order of n. -/
def isO (l : List Int) (n : Int) : Bool := decide (rgt n = true ∧ (l.length : Int) = n ∧ ∀ r ∈ rng n.toNat, r ∈ l)
theorem isO_iff {l : List Int} {n : Int} : isO l n = true ↔ rgt n = true ∧ (l.length : Int) = n ∧ ∀ r ∈ rng n.toNat, r ∈ l := by simp [isO]
theorem isO_perm {l : List Int} {n : Int} (h : isO l n = true) : l.Perm (rng n.toNat) := by
  rw [isO_iff] at h
  exact perm_of_sub _ _ (rng_nodup _) h.2.2 (by rw [rng_len]; omega)
theorem isO_nodup {l : List Int} {n : Int} (h : isO l n = true) : l.Nodup := (isO_perm h).nodup_iff.2 (rng_nodup _)
theorem isO_of_perm {l m : List Int} {n : Int} (h : isO l n = true) (hp : m.Perm l) : isO m n = true := by
  rw [isO_iff] at h ⊢
  exact ⟨h.1, by rw [hp.length_eq]; exact h.2.1, fun r hr => hp.mem_iff.2 (h.2.2 r hr)⟩
theorem isO_count {l : List Int} {n : Int} (h : isO l n = true) {r : Int} (h0 : 0 ≤ r) (h1 : r < n) : l.count r = 1 := by
  have hm := (isO_iff.1 h).2.2 r (mem_rng.2 ⟨h0, by omega⟩)
  have h2 := List.nodup_iff_count.1 (isO_nodup h) r
  have h3 := List.count_pos_iff.2 hm
  omega
theorem isO_no {l : List Int} {n : Int} {r : Int} (h0 : 0 ≤ r) (h1 : r < n) (h : r ∉ l) : isO l n = false := by
  rw [← Bool.not_eq_true, isO_iff]
  rintro ⟨_, _, h2⟩
  exact h (h2 r (mem_rng.2 ⟨h0, by omega⟩))

end Bal
end Go.Proofs.YtgjepofinpmcpaaGreatDoor
end
