/- catenarylaw11.DiskRuns: its walk. -/
import Derived.Test.YtnalakdnjjmaaaaDAl
import Derived.Test.YtnalakdnjjmaaaaDw
import Derived.Test.YtnalakdnjjmaaaaDact
import Derived.Laws.BitsAllLaws
import Derived.Deep.CutBlock
set_option linter.unusedVariables false
set_option linter.unusedSimpArgs false
namespace Go.Proofs.Ytnalakdnjjmaaaa
open Go.RowKit Oct

theorem acts_at {w : World} {v : Value} {ys : List PAct} (h : RL RAct 4 Any w v ys) (k : Nat) (y : PAct) (hy : ys[k]? = some y) : ∃ b off cap s, v = .slice (some ⟨b, off, none⟩) ys.length cap ∧ ys.length ≤ cap ∧ cap ≤ maxLen ∧ s.oneCell' = true ∧ y.2.2.1 ≤ 9223372036854775807 ∧
    ∀ w', Below w.heap.size w w' → w'.rangeAt b (off + k * 4) [.int .i64 y.1, s, .int .i64 y.2.2.1, .int .i64 y.2.2.2] ∧ Rd w' s y.2.1 := by
  obtain ⟨b, off, cap, e, h1, h2, _, hb, h3⟩ := h.at (by have := (List.getElem?_eq_some_iff.1 hy).1; omega)
  obtain ⟨r, _, hr, s, rfl, hs, hA⟩ := h3 k y hy
  exact ⟨b, off, cap, s, e, h1, h2, hs.one, hA, fun w' hw => ⟨rangeAt_block hr (hw.block b hb), hs.1.below hw⟩⟩

/-- The two disks, side by side. -/
structure Two (w0 : World) (b g : Nat) (wr : World) (vd vw : Value) (c r : PDk) : Prop where
  dsk : Dsk wr b vd c
  row : Row wr g 28 (dkc vw r)
  rd : Rd wr vw r.l
  ok : OkD r
  lk : Lk c r
  fd : Fr w0.heap.size vd
  ab : r.l ≠ [] → vw.ownBlock ≠ some b
  ag : r.l ≠ [] → vw.ownBlock ≠ some g
  ad : r.l ≠ [] → ∀ k, vd.ownBlock = some k → vw.ownBlock ≠ some k
  bel : Below w0.heap.size w0 wr
theorem Two.ne {w0 wr : World} {b g : Nat} {vd vw : Value} {c r : PDk} (h : Two w0 b g wr vd vw c r) : b ≠ g := h.dsk.row.apart h.row (by decide)
theorem Two.below {w0 wr wr' : World} {b g : Nat} {vd vw : Value} {c r : PDk} (h : Two w0 b g wr vd vw c r) (hb : Below wr.heap.size wr wr') : Two w0 b g wr' vd vw c r :=
  ⟨h.dsk.below hb, h.row.below hb, h.rd.below hb, h.ok, h.lk, h.fd, h.ab, h.ag, h.ad, below_and h.bel (Nat.le_refl _) hb⟩
/-- A block beside them is written. -/
theorem Two.beside {w0 wr wr' : World} {b g k : Nat} {vd vw : Value} {c r : PDk} (h : Two w0 b g wr vd vw c r) (hg : wr.grownBy wr' (some k)) (h0 : w0.heap.size ≤ k) (h1 : k ≠ b) (h2 : k ≠ g) (h3 : vd.ownBlock ≠ some k) (h4 : r.l ≠ [] → vw.ownBlock ≠ some k) : Two w0 b g wr' vd vw c r :=
  ⟨h.dsk.grown hg (by simpa using h1) (fun q hq => by cases hq; exact h3), h.row.grown hg (by simpa using h2), h.rd.grown hg (fun hx q hq => by cases hq; exact h4 hx), h.ok, h.lk, h.fd, h.ab, h.ag, h.ad, h.bel.trans (grown_below hg h.bel.size (fun q hq => by cases hq; exact h0))⟩

theorem Two.ng {w0 wr : World} {b g : Nat} {vd vw : Value} {c r : PDk} (h : Two w0 b g wr vd vw c r) : vd.ownBlock ≠ some g := own_row_nD h.row h.dsk.own (by decide)
theorem Rd.same_len {w w' : World} {v : Value} {l l' : List Int} (h : Rd w v l) (h' : Rd w' v l') : l.length = l'.length := by
  obtain ⟨a, c, e, _⟩ := h.form
  obtain ⟨a', c', e', _⟩ := h'.form
  rw [e] at e'
  injection e'
/-- One thing done with both. -/
theorem Two.go {w0 w6 w7 w9 w10 : World} {b g : Nat} {vd vd' vw vw' : Value} {c c' r r' : PDk} (h : Two w0 b g w6 vd vw c r) (hbw : w0.heap.size ≤ b) (hgw : w0.heap.size ≤ g) (hD : Dsk w7 b vd' c') (hG : Gr2 w6 w7 b vd) (hS : Spt w6 vd vd') (h79 : Below w7.heap.size w7 w9)
    (hrd : Rd w9 vw' r'.l) (hsp : vw' = vw ∨ Fr w7.heap.size vw') (hg : w9.grownBy w10 (some g)) (hrow : Row w10 g 28 (dkc vw' r')) (hok : OkD r') (hlk : Lk c' r') : Two w0 b g w10 vd' vw' c' r' := by
  have hbl := h.dsk.lt
  have hgl := h.row.lt
  have h67 := hG.size
  have hne := h.ne
  have hB7 : Below w0.heap.size w0 w7 := h.bel.trans (hG.below h.bel.size hbw h.fd)
  have hB9 := below_and hB7 (Nat.le_refl _) h79
  have hfd : Fr w0.heap.size vd' := by rcases hS with e | e; exact fun k hk => h.fd k (e ▸ hk); exact e.mono h.bel.size
  have hrow7 := hG.row h.row (Ne.symm hne) h.ng
  have hvg : vd'.ownBlock ≠ some g := own_row_nD hrow7 hD.own (by decide)
  have hll : vw' = vw → r'.l ≠ [] → r.l ≠ [] := fun e hx hr => by
    subst e
    have := hrd.same_len h.rd
    rw [hr] at this
    exact hx (List.eq_nil_of_length_eq_zero (by simpa using this))
  have hag : r'.l ≠ [] → vw'.ownBlock ≠ some g := fun hx => by
    rcases hsp with e | e
    · rw [e]; exact h.ag (hll e hx)
    · intro e2; have := e g e2; omega
  refine ⟨(hD.below h79).grown hg (by simpa using (Ne.symm hne)) (fun k hk => by cases hk; exact hvg), hrow, hrd.grown hg (fun hx k hk => by cases hk; exact hag hx), hok, hlk, hfd, fun hx => ?_, hag, fun hx k hk => ?_, hB9.trans (grown_below hg hB9.size (fun k hk => by cases hk; exact hgw))⟩
  · rcases hsp with e | e
    · rw [e]; exact h.ab (hll e hx)
    · intro e2; have := e b e2; omega
  · rcases hsp with e | e
    · rw [e]
      rcases hS with e2 | e2
      · exact h.ad (hll e hx) k (e2 ▸ hk)
      · intro e3
        have h1 := e2 k hk
        have h2 := h.rd.lt (hll e hx) k e3
        omega
    · intro e3
      have h1 := e k e3
      have h2 := hD.own.lt k hk
      omega
/-- A text of the call's own stays beside. -/
theorem Two.keep {w0 w6 w7 w9 w10 : World} {b g : Nat} {vd vd' vw vw' o : Value} {c c' r r' : PDk} {xs : List Value} (h : Two w0 b g w6 vd vw c r) (hD : Dsk w7 b vd' c') (hG : Gr2 w6 w7 b vd) (hS : Spt w6 vd vd') (h79 : Below w7.heap.size w7 w9)
    (hrd : Rd w9 vw' r'.l) (hsp : vw' = vw ∨ Fr w7.heap.size vw') (hg : w9.grownBy w10 (some g)) (ho : Own w6 5 o xs) (a1 : ∀ k, o.ownBlock = some k → vd.ownBlock ≠ some k) (a2 : r.l ≠ [] → ∀ k, o.ownBlock = some k → vw.ownBlock ≠ some k) :
    Own w10 5 o xs ∧ (∀ k, o.ownBlock = some k → vd'.ownBlock ≠ some k) ∧ (r'.l ≠ [] → ∀ k, o.ownBlock = some k → vw'.ownBlock ≠ some k) := by
  have h67 := hG.size
  have ho7 := hG.own ho (h.dsk.nu ho) (fun k hk e => a1 k e hk)
  refine ⟨(ho7.below h79).grown hg (fun k hk => by cases hk; exact own_row_nD h.row ho (by decide)), fun k hk => ?_, fun hx k hk => ?_⟩
  · rcases hS with e | e
    · rw [e]; exact a1 k hk
    · intro e2; have := e k e2; have := ho.lt k hk; omega
  · rcases hsp with e | e
    · subst e
      refine a2 (fun hr => hx ?_) k hk
      have := hrd.same_len h.rd
      rw [hr] at this
      exact List.eq_nil_of_length_eq_zero (by simpa using this)
    · intro e2; have := e k e2; have := ho.lt k hk; omega
theorem xor_rngD {y : Int} (h : 0 ≤ y ∧ y ≤ 255) : 0 ≤ bits .xor .u8 y 255 ∧ bits .xor .u8 y 255 ≤ 255 := by
  rw [u8_xor y 255 h.1 (by omega) (by decide) (by decide)]
  have : y.toNat ^^^ (255 : Int).toNat < 2 ^ 8 := Nat.xor_lt_two_pow (by omega) (by decide)
  omega
/-- A text of the call's own, at a place. -/
theorem Own.at_byteD {w : World} {v : Value} {l : List Int} (h : Own w 5 v (bc l)) {j : Nat} (hj : j < l.length) :
    ∃ (k cap : Nat) (cur : List Value) (y : Int), v = .slice (some ⟨k, 0, none⟩) l.length cap ∧ l.length ≤ cap ∧ cap ≤ maxLen ∧ Row w k 5 cur ∧ j < cur.length ∧ cur[j]? = some (.int .u8 y) ∧ l[j]? = some y ∧
      ∀ (w' : World) (x : Int), Row w' k 5 (cur.set j (.int .u8 x)) → Own w' 5 v (bc (l.set j x)) := by
  obtain ⟨h1, h2⟩ := h
  rcases h2 with ⟨_, h3⟩ | ⟨k, cap, cur, e, h0, hh, n1, n2, n3, n4⟩
  · rw [bc_len] at h3; omega
  · have e' : v = .slice (some ⟨k, 0, none⟩) (bc l).length cap := e
    rw [bc_len] at e'
    have hy : (bc l)[j]? = some (.int .u8 l[j]) := by rw [bc_at, List.getElem?_eq_getElem hj]; rfl
    rw [← n4, List.getElem?_take] at hy
    rw [bc_len] at n1 hy
    split at hy
    · refine ⟨k, cap, cur.toList, l[j], e', by omega, n2, by unfold Row; simpa using hh, (List.getElem?_eq_some_iff.1 hy).1, hy, List.getElem?_eq_getElem hj, fun w' x hr => ?_⟩
      have hbc : bc (l.set j x) = (bc l).set j (.int .u8 x) := by unfold bc; rw [List.map_set]
      have hn : (bc (l.set j x)).length = (bc l).length := by rw [hbc, List.length_set]
      show World.ownsRow _ 0 _ 1 _ (bc (l.set j x)).length _
      rw [hn, hbc]
      refine ⟨by simp, .inr ⟨k, cap, (cur.toList.set j (.int .u8 x)).toArray, e, h0, hr, by rw [bc_len]; exact n1, n2, by simpa using n3, ?_⟩⟩
      rw [List.toList_toArray, List.take_set, n4]
    · cases hy
/-- A byte of it is turned. -/
theorem Two.turn {w0 wr wr' : World} {b g k j : Nat} {vd vw o : Value} {c r : PDk} {xs : List Value} {cur : List Value} {x : Int} (h : Two w0 b g wr vd vw c r) (hg : wr.grownBy wr' (some k)) (hk : Row wr k 5 cur) (ho : o.ownBlock = some k) (hf : Fr w0.heap.size o)
    (a1 : ∀ k, o.ownBlock = some k → vd.ownBlock ≠ some k) (a2 : r.l ≠ [] → ∀ k, o.ownBlock = some k → vw.ownBlock ≠ some k) : Two w0 b g wr' vd vw c r :=
  h.beside hg (hf k ho) (Ne.symm (h.dsk.row.apart hk (by decide))) (Ne.symm (h.row.apart hk (by decide))) (a1 k ho) (fun hx => a2 hx k ho)

set_option maxRecDepth 10000 in
set_option maxHeartbeats 1500000 in
theorem runsD_any (w : World) (r : Int) (v0 : Value) (ys : List PAct) (h0 : RL RAct 4 Any w v0 ys) (z0 : szL 48 szAc ys) :
    Calls Try.prog 4 #[.int .i64 r, v0] w fun e w' => e = .returned (.bool true) ∧ Below w.heap.size w w' := by
  have le := Nat.le_refl w.heap.size
  have h0A := h0
  obtain ⟨a0, c0, rfl, hc0⟩ := h0.form
  obtain ⟨N, hN⟩ : ∃ N, N = ys.length := ⟨_, rfl⟩
  have HT := (show Hid (∀ (k : Nat) (y : PAct), ys[k]? = some y → ∃ b off cap s, Value.slice a0 N c0 = .slice (some ⟨b, off, none⟩) N cap ∧ N ≤ cap ∧ cap ≤ maxLen ∧ s.oneCell' = true ∧ y.2.2.1 ≤ 9223372036854775807 ∧ y.2.1.length ≤ 140737488351232 ∧
      ∀ w', Below w.heap.size w w' → w'.rangeAt b (off + k * 4) [.int .i64 y.1, s, .int .i64 y.2.2.1, .int .i64 y.2.2.2] ∧ Rd w' s y.2.1) from fun k y hy => by
    obtain ⟨b, off, cap, s, e, e1, e2, e3, e4, e5⟩ := acts_at h0A k y hy
    rw [← hN] at e e1
    exact ⟨b, off, cap, s, e, e1, e2, e3, e4, z0.2 y (List.mem_of_getElem? hy), e5⟩)
  have hNm : (N : Int) ≤ 9223372036854775807 := by
    rcases Nat.eq_zero_or_pos N with h | h
    · omega
    · obtain ⟨_, _, cap, _, e, e1, _⟩ := h0A.at (by omega)
      unfold maxLen at e1
      omega
  rw [← hN]
  have HN := (show Hid (ys.length = N) from hN.symm)
  clear hN h0 h0A hc0 z0
  by_cases h200 : (200 : Int) < N
  · go_enter Try.func4, Try.ntmps4
    go_wp2_with (first
      | (go_at_call 8; refine (diskAlive_any w).mono ?_; rintro e w1 ⟨rfl, hb1⟩)
      | (go_at_call 9; refine (newD_any w1 r).mono ?_; rintro e w2 ⟨b, rfl, hb, hd2, hb2⟩))
    go_ret
    exact ⟨rfl, below_and hb1 le hb2⟩
  have h200' : decide ((200 : Int) < N) = false := decide_eq_false h200
  go_enter Try.func4, Try.ntmps4
  go_upto_region 8 with (first
      | (go_at_call 8; refine (diskAlive_any w).mono ?_; rintro e w1 ⟨rfl, hb1⟩)
      | (go_at_call 9; refine (newD_any w1 r).mono ?_; rintro e w2 ⟨b, rfl, hb, hd2, hb2⟩))
  have hB2 := below_and hb1 le hb2
  have hbw : w.heap.size ≤ b := Nat.le_trans hb1.size hb
  go_upto_region 9 with (first
      | (go_at_call 10; refine (refNewD_any w2 r).mono ?_; rintro e w3 ⟨rfl, hb3⟩; have hrow := Row.new w3 28 (dkc (.slice none 0 0) ⟨[], 0, false, false, 0, 0⟩))
      | (refine wl_store rfl _ _ _ rfl w3.heap.size (dkc (.slice none 0 0) (nwD r)) rfl rfl _ _ hrow rfl (by kernel_rfl) (dkc_one rfl _) ?_; intro w4 hr4 hg4))
  have hb4 : Below w3.heap.size w3 w4 := (below_alloc w3 (.cells (dkc (.slice none 0 0) ⟨[], 0, false, false, 0, 0⟩).toArray 28)).trans (grown_below hg4 (by simp) (fun k hk => by cases hk; exact Nat.le_refl _))
  have hb24 := below_and hb3 (Nat.le_refl _) hb4
  have hB4 := below_and hB2 le hb24
  have hgw : w.heap.size ≤ w3.heap.size := Nat.le_trans hB2.size hb3.size
  have hT4 : Two w b w3.heap.size w4 (.slice none 0 0) (.slice none 0 0) (nwD r) (nwD r) := ⟨hd2.below hb24, hr4.out, (Own.nil w4 5).rd (l := []) Byt.nil, ok_nw r, Lk.nw r, Fr.nil _, fun h => absurd rfl h, fun h => absurd rfl h, fun h => absurd rfl h, hB4⟩
  obtain ⟨g, hg⟩ : ∃ g, g = w3.heap.size := ⟨_, rfl⟩
  rw [← hg] at hT4 hgw ⊢
  clear hb1 hb2 hb hB2 hB4 hb24 hb4 hg4 hr4 hrow hb3 hd2 hg
  go_wp2_with fail
  go_loopw [32] (fun i wr => ∃ (k : Nat) (vd vw : Value) (c r : PDk), k ≤ N ∧ i = .int .i64 k ∧ Two w b g wr vd vw c r) (fun i _ => N - (intOf i).toNat)
  case atStart => exact ⟨0, _, _, _, _, by omega, rfl, hT4⟩
  case round =>
    clear hT4
    obtain ⟨k, vd, vw, c, r, hk, rfl, hT⟩ := hrel
    by_cases hkl : k < N
    · obtain ⟨y, hy⟩ : ∃ y, ys[k]? = some y := ⟨_, List.getElem?_eq_getElem (by have := HN.out; omega)⟩
      obtain ⟨tb, tof, tc, s, et, ht1, ht2, hs1, hyA, hxl, htx⟩ := HT.out k y hy
      injection et with et1 _ et3
      subst et1 et3
      have hki : (k : Int) < (N : Int) := by omega
      have hrng := (htx wr hT.bel).1
      have HR := (show Hid (∀ w', Below w.heap.size w w' → Rd w' s y.2.1) from fun w' hw => (htx w' hw).2)
      obtain ⟨kd, x, A, T⟩ := y
      simp only at hyA hxl hrng HR
      have hone : ∀ u ∈ [Value.int .i64 kd, s, .int .i64 A, .int .i64 T], u.oneCell' = true := by
        intro u hu
        simp only [List.mem_cons, List.not_mem_nil, or_false] at hu
        rcases hu with rfl | rfl | rfl | rfl <;> first | rfl | assumption
      have hrow := Row.new wr 31 [.int .i64 0, .slice none 0 0, .int .i64 0, .int .i64 0]
      obtain ⟨as', cs', hs, _⟩ := (HR.out wr hT.bel).form
      obtain ⟨X, hX⟩ : ∃ X, X = x.length := ⟨_, rfl⟩
      rw [← hX] at hs
      have HXL := (show Hid (x.length = X) from hX.symm)
      have hXb : (X : Int) ≤ 140737488351232 := by omega
      clear hy htx hX hxl
      subst hs
      go_upto_region 12 with (first
        | (refine wpList_load_mid rfl _ _ rfl tb (tof + k * 4) rfl [.int .i64 kd, .slice as' X cs', .int .i64 A, .int .i64 T] _ hrng Try.underlying31 rfl (by kernel_rfl) ?_)
        | (refine wl_store rfl _ _ _ rfl wr.heap.size [.int .i64 kd, .slice as' X cs', .int .i64 A, .int .i64 T] rfl rfl _ _ hrow rfl (by kernel_rfl) hone ?_; intro w5 hr5 hg5))
      have hb5 : Below wr.heap.size wr w5 := (below_alloc wr (.cells ([.int .i64 0, .slice none 0 0, .int .i64 0, .int .i64 0] : List Value).toArray 31)).trans (grown_below hg5 (by simp) (fun k hk => by cases hk; exact Nat.le_refl _))
      have hT5 := hT.below hb5
      have ra5 := hr5.out
      have hgwr := hT.bel.size
      have hBx := hT.dsk.lt
      have hGx := hT.row.lt
      obtain ⟨ga, hga⟩ : ∃ ga, ga = wr.heap.size := ⟨_, rfl⟩
      rw [← hga] at ra5 ⊢
      have hgab : w.heap.size ≤ ga := by omega
      clear hrng hone hrow hg5 hr5 hb5 hT hga
      have hx5 := HR.out w5 hT5.bel
      have c51 := (rowA ra5 (.cells #[] 5)).cell (j := 1) rfl
      go_upto_block 2 with (at_builtin; refine app_copy rfl _ _ rfl rfl _ x rfl hx5 (by have := HXL.out; omega) ?_; intro o6 w6 ho6 hf6 hb6; have c60 := (ra5.below hb6).cell (j := 0) rfl)
      have hT6 := hT5.below hb6
      have ra6 := ra5.below hb6
      have hfo : Fr w.heap.size o6 := hf6.mono hT5.bel.size
      have a1 : ∀ k, o6.ownBlock = some k → vd.ownBlock ≠ some k := fun k hk e => by have := hf6 k hk; have := hT5.dsk.own.lt k e; omega
      have a2 : r.l ≠ [] → ∀ k, o6.ownBlock = some k → vw.ownBlock ≠ some k := fun hx k hk e => by have := hf6 k hk; have := hT5.rd.lt hx k e; omega
      have c61 := ra6.cell (j := 1) rfl
      have c62 := ra6.cell (j := 2) rfl
      have c63 := ra6.cell (j := 3) rfl
      have hxB := hx5.1
      have hgab' : ga ≠ b := Ne.symm (hT6.dsk.row.apart ra6 (by decide))
      have hgag : ga ≠ g := Ne.symm (hT6.row.apart ra6 (by decide))
      have hvga : vd.ownBlock ≠ some ga := own_row_nD ra6 hT6.dsk.own (by decide)
      have HVW := (show Hid (∃ a n c, vw = .slice a n c) from by obtain ⟨aw, cw, hvw, _⟩ := hT6.rd.form; exact ⟨_, _, _, hvw⟩)
      clear hT5 hb6 ra5 c51 hx5 c60
      go_cut [10, 11] from 42 to 99 (fun s10 s11 wx => ∃ (E : Int) (vd' vw' : Value) (c' r' : PDk), s10 = .int .i64 E ∧ s11 = .int .i64 E ∧ Two w b g wx vd' vw' c' r' ∧ Own wx 5 o6 (bc x) ∧ (∀ k, o6.ownBlock = some k → vd'.ownBlock ≠ some k) ∧ (r'.l ≠ [] → ∀ k, o6.ownBlock = some k → vw'.ownBlock ≠ some k))
      case first =>
        by_cases k0 : kd = 0
        · subst k0
          go_upto_region 17 with (go_at_call 11; refine (appendD_any w6 b _ o6 _ x hT6.dsk (ho6.rd hxB) (fun _ => hT6.dsk.nu ho6) (fun _ q hq e => a1 q e hq) (by have := HXL.out; omega)).mono ?_; rintro e w7 ⟨vd7, rfl, hd7, hG7, hS7⟩)
          have rg7 := hG7.row hT6.row (Ne.symm hT6.ne) hT6.ng
          have ra7 := hG7.row ra6 hgab' hvga
          have e1 := ra7.cell (j := 1) rfl
          have hrd7 := hG7.rd hT6.rd hT6.ab hT6.ad
          have hB7 : Below w.heap.size w w7 := hT6.bel.trans (hG7.below hT6.bel.size hbw hT6.fd)
          have hx7 := HR.out w7 hB7
          have hlk := hT6.lk.ap x
          have hok := hT6.ok.rw hxB false
          go_wp2_with (first
            | (refine wl_load rfl _ _ rfl g rfl _ _ rg7 _ Try.underlying28 rfl (by kernel_rfl) ?_)
            | (go_at_call 12; refine (refWriteD_false w7 vw _ r x hrd7 hx7 hT6.ok (by have := HXL.out; omega)).mono ?_; rintro e w8 ⟨vw8, rfl, hrd8, hsp8, hb8⟩; have rn8 := Row.new w8 28 (dkc (.slice none 0 0) ⟨[], 0, false, false, 0, 0⟩); have rg8 := rg7.below hb8)
            | (refine wl_store rfl _ _ _ rfl w8.heap.size (dkc vw8 (rwD r x false).1) rfl rfl _ _ rn8 rfl (by kernel_rfl) (dkc_one (rd_oneD hrd8) _) ?_; intro w9 hr9 hg9; have rg9 := (rowA rg8 _).grown hg9 (by have := rg8.lt; simp; omega))
            | (refine wl_load rfl _ _ rfl w8.heap.size rfl _ _ hr9.out _ Try.underlying28 rfl (by kernel_rfl) ?_)
            | (refine wl_store rfl _ _ _ rfl g (dkc vw8 (rwD r x false).1) rfl rfl _ _ rg9 rfl (by kernel_rfl) (dkc_one (rd_oneD hrd8) _) ?_; intro w10 hr10 hg10))
          go_meet
          have hb89 : Below w8.heap.size w8 w9 := (below_alloc w8 (.cells (dkc (.slice none 0 0) ⟨[], 0, false, false, 0, 0⟩).toArray 28)).trans (grown_below hg9 (by simp) (fun k hk => by cases hk; exact Nat.le_refl _))
          have hb79 := below_and hb8 (Nat.le_refl _) hb89
          have hrd9 := hrd8.below hb89
          refine ⟨(rwD r x false).2, _, _, _, _, ?_, rfl, hT6.go hbw hgw hd7 hG7 hS7 hb79 hrd9 hsp8 hg10 hr10.out hok hlk.2, hT6.keep hd7 hG7 hS7 hb79 hrd9 hsp8 hg10 ho6 a1 a2⟩
          first | rfl | exact congrArg (Value.int .i64) hlk.1
        have hk0 : (kd == 0) = false := by simp [k0]
        by_cases k1 : kd = 1
        · subst k1
          go_upto_region 22 with (go_at_call 13; refine (replaceD_any w6 b _ o6 _ x hT6.dsk (ho6.rd hxB) (fun _ => hT6.dsk.nu ho6) (by have := HXL.out; omega)).mono ?_; rintro e w7 ⟨vd7, rfl, hd7, hG7, hS7⟩)
          have rg7 := hG7.row hT6.row (Ne.symm hT6.ne) hT6.ng
          have ra7 := hG7.row ra6 hgab' hvga
          have e1 := ra7.cell (j := 1) rfl
          have hrd7 := hG7.rd hT6.rd hT6.ab hT6.ad
          have hB7 : Below w.heap.size w w7 := hT6.bel.trans (hG7.below hT6.bel.size hbw hT6.fd)
          have hx7 := HR.out w7 hB7
          have hlk := hT6.lk.re x
          have hok := hT6.ok.rw hxB true
          go_wp2_with (first
            | (refine wl_load rfl _ _ rfl g rfl _ _ rg7 _ Try.underlying28 rfl (by kernel_rfl) ?_)
            | (go_at_call 12; refine (refWriteD_true w7 vw _ r x hrd7 hx7 hT6.ok (by have := HXL.out; omega)).mono ?_; rintro e w8 ⟨vw8, rfl, hrd8, hsp8, hb8⟩; have rn8 := Row.new w8 28 (dkc (.slice none 0 0) ⟨[], 0, false, false, 0, 0⟩); have rg8 := rg7.below hb8)
            | (refine wl_store rfl _ _ _ rfl w8.heap.size (dkc vw8 (rwD r x true).1) rfl rfl _ _ rn8 rfl (by kernel_rfl) (dkc_one (rd_oneD hrd8) _) ?_; intro w9 hr9 hg9; have rg9 := (rowA rg8 _).grown hg9 (by have := rg8.lt; simp; omega))
            | (refine wl_load rfl _ _ rfl w8.heap.size rfl _ _ hr9.out _ Try.underlying28 rfl (by kernel_rfl) ?_)
            | (refine wl_store rfl _ _ _ rfl g (dkc vw8 (rwD r x true).1) rfl rfl _ _ rg9 rfl (by kernel_rfl) (dkc_one (rd_oneD hrd8) _) ?_; intro w10 hr10 hg10))
          go_meet
          have hb89 : Below w8.heap.size w8 w9 := (below_alloc w8 (.cells (dkc (.slice none 0 0) ⟨[], 0, false, false, 0, 0⟩).toArray 28)).trans (grown_below hg9 (by simp) (fun k hk => by cases hk; exact Nat.le_refl _))
          have hb79 := below_and hb8 (Nat.le_refl _) hb89
          have hrd9 := hrd8.below hb89
          refine ⟨(rwD r x true).2, _, _, _, _, ?_, rfl, hT6.go hbw hgw hd7 hG7 hS7 hb79 hrd9 hsp8 hg10 hr10.out hok hlk.2, hT6.keep hd7 hG7 hS7 hb79 hrd9 hsp8 hg10 ho6 a1 a2⟩
          first | rfl | exact congrArg (Value.int .i64) hlk.1
        have hk1 : (kd == 1) = false := by simp [k1]
        by_cases k2 : kd = 2
        · subst k2
          go_upto_region 27 with (go_at_call 14; refine (break_any w6 b _ _ A T hT6.dsk hyA).mono ?_; rintro e w7 ⟨rfl, hd7, hg7⟩)
          have hG7 : Gr2 w6 w7 b vd := Gr2.of hg7
          have rg7 := hG7.row hT6.row (Ne.symm hT6.ne) hT6.ng
          have ra7 := hG7.row ra6 hgab' hvga
          have e2 := ra7.cell (j := 2) rfl
          have e3 := ra7.cell (j := 3) rfl
          have hrd7 := hG7.rd hT6.rd hT6.ab hT6.ad
          go_wp2_with (first
            | (refine wl_load rfl _ _ rfl g rfl _ _ rg7 _ Try.underlying28 rfl (by kernel_rfl) ?_)
            | (go_at_call 15; refine (refBreakD_any w7 vw r A T (rd_oneD hT6.rd)).mono ?_; rintro e w8 ⟨rfl, hb8⟩; have rg8 := rg7.below hb8)
            | (refine wl_store rfl _ _ _ rfl g (dkc vw (bkD r A T)) rfl rfl _ _ rg8 rfl (by kernel_rfl) (dkc_one (rd_oneD hT6.rd) _) ?_; intro w9 hr9 hg9))
          go_meet
          have hrd8 : Rd w8 vw (bkD r A T).l := hrd7.below hb8
          exact ⟨0, _, _, _, _, rfl, rfl, hT6.go hbw hgw hd7 hG7 (.inl rfl) hb8 hrd8 (.inl rfl) hg9 hr9.out (hT6.ok.bk hyA T) (hT6.lk.bk A T), hT6.keep hd7 hG7 (.inl rfl) hb8 hrd8 (.inl rfl) hg9 ho6 a1 a2⟩
        have hk2 : (kd == 2) = false := by simp [k2]
        by_cases k3 : kd = 3
        · subst k3
          go_upto_region 30 with (go_at_call 16; refine (mend_any w6 b _ _ hT6.dsk).mono ?_; rintro e w7 ⟨rfl, hd7, hg7⟩)
          have hG7 : Gr2 w6 w7 b vd := Gr2.of hg7
          have rg7 := hG7.row hT6.row (Ne.symm hT6.ne) hT6.ng
          have hrd7 := hG7.rd hT6.rd hT6.ab hT6.ad
          go_wp2_with (first
            | (refine wl_load rfl _ _ rfl g rfl _ _ rg7 _ Try.underlying28 rfl (by kernel_rfl) ?_)
            | (go_at_call 17; refine (refMendD_any w7 vw r HVW.out).mono ?_; rintro e w8 ⟨rfl, hb8⟩; have rg8 := rg7.below hb8)
            | (refine wl_store rfl _ _ _ rfl g (dkc vw (meD r)) rfl rfl _ _ rg8 rfl (by kernel_rfl) (dkc_one (rd_oneD hT6.rd) _) ?_; intro w9 hr9 hg9))
          go_meet
          have hrd8 : Rd w8 vw (meD r).l := hrd7.below hb8
          exact ⟨0, _, _, _, _, rfl, rfl, hT6.go hbw hgw hd7 hG7 (.inl rfl) hb8 hrd8 (.inl rfl) hg9 hr9.out hT6.ok.me hT6.lk.me, hT6.keep hd7 hG7 (.inl rfl) hb8 hrd8 (.inl rfl) hg9 ho6 a1 a2⟩
        have hk3 : (kd == 3) = false := by simp [k3]
        by_cases k4 : kd = 4
        · subst k4
          go_upto_region 33 with (go_at_call 18; refine (room_any w6 b _ _ A hT6.dsk).mono ?_; rintro e w7 ⟨rfl, hd7, hg7⟩)
          have hG7 : Gr2 w6 w7 b vd := Gr2.of hg7
          have rg7 := hG7.row hT6.row (Ne.symm hT6.ne) hT6.ng
          have ra7 := hG7.row ra6 hgab' hvga
          have e2 := ra7.cell (j := 2) rfl
          have hrd7 := hG7.rd hT6.rd hT6.ab hT6.ad
          go_wp2_with (first
            | (go_at_call 19; refine (refRoom_any w7 A).mono ?_; rintro e w7 ⟨rfl, rfl⟩)
            | (refine wl_set rfl _ _ _ rfl g 1 _ rfl rfl _ _ rg7 (show 1 < 6 by decide) (by kernel_rfl) rfl ?_; intro w9 hr9 hg9))
          go_meet
          have hrd8 : Rd w7 vw (roD r A).l := hrd7
          exact ⟨0, _, _, _, _, rfl, rfl, hT6.go hbw hgw hd7 hG7 (.inl rfl) (Below.refl _ _) hrd8 (.inl rfl) hg9 hr9.out (hT6.ok.ro A) (hT6.lk.ro A), hT6.keep hd7 hG7 (.inl rfl) (Below.refl _ _) hrd8 (.inl rfl) hg9 ho6 a1 a2⟩
        have hk4 : (kd == 4) = false := by simp [k4]
        go_wp2_with fail
        go_meet
        exact ⟨0, _, _, _, _, rfl, rfl, hT6, ho6, a1, a2⟩
      case rest =>
        obtain ⟨E, vd', vw', c', r', rfl, rfl, hT7, ho7, b1, b2⟩ := hcut
        obtain ⟨ao, co, eo, hco1, hco2⟩ : ∃ ao co, o6 = .slice ao X co ∧ X ≤ co ∧ co ≤ maxLen := by
          obtain ⟨_, av, cv, e, h1, h2, _⟩ := ho7.rd hxB
          rw [bc_len, HXL.out] at e h1
          exact ⟨av, cv, e, h1, h2⟩
        have HO7 := (show Hid (∃ l : List Int, l.length = X ∧ Own wc 5 (.slice ao X co) (bc l) ∧ Byt l) from ⟨x, HXL.out, by rw [← eo]; exact ho7, hxB⟩)
        have hfo' : Fr w.heap.size (.slice ao X co) := by rw [← eo]; exact hfo
        have b1' : ∀ k, (Value.slice ao X co).ownBlock = some k → vd'.ownBlock ≠ some k := by rw [← eo]; exact b1
        have b2' : r'.l ≠ [] → ∀ k, (Value.slice ao X co).ownBlock = some k → vw'.ownBlock ≠ some k := by rw [← eo]; exact b2
        clear hT6 ra6 ho6 hf6 a1 a2 hfo c61 c62 c63 hgab' hgag hvga HVW ho7 b1 b2
        subst eo
        go_wp2_with fail
        go_loopw [102] (fun i wx => ∃ j : Nat, j ≤ X ∧ i = .int .i64 j ∧ Two w b g wx vd' vw' c' r' ∧ ∃ l : List Int, l.length = X ∧ Own wx 5 (.slice ao X co) (bc l) ∧ Byt l) (fun i _ => X - (intOf i).toNat)
        case atStart => exact ⟨0, by omega, rfl, hT7, HO7.out⟩
        case round =>
          clear hT7 HO7
          obtain ⟨j, hj, rfl, hT8, l, hl, ho8, hl8⟩ := hrel
          by_cases hjx : j < X
          · obtain ⟨kb, cap, cur, yb, e, _, _, hrow, hjc, hcy, hly, hset⟩ := ho8.at_byteD (j := j) (by omega)
            have hok : (Value.slice ao X co).ownBlock = some kb := by rw [e]; rfl
            have hTT := (show Hid (∀ wz, wr.grownBy wz (some kb) → Two w b g wz vd' vw' c' r') from fun wz hg => hT8.turn (o := .slice ao X co) (xs := []) (j := j) (x := 0) hg hrow hok hfo' b1' b2')
            injection e with e1 e2 e3
            clear e2
            subst e1 e3
            have hji : (j : Int) < (X : Int) := by omega
            have HJ := (show Hid (j + 1 ≤ X) by show _ ≤ _; omega)
            have hcc := hrow.cell hcy
            have hyb := hl8 yb (List.mem_of_getElem? hly)
            have hxr := xor_rngD hyb
            have KS := (show Hid (∀ (w' : World) (x : Int), Row w' kb 5 (cur.set j (.int .u8 x)) → Own w' 5 (.slice (some ⟨kb, 0, none⟩) X co) (bc (l.set j x))) from hset)
            have HLB := (show Hid (l.length = X ∧ Byt l) from ⟨hl, hl8⟩)
            clear hset ho8 hcy hly hl hl8 hT8
            go_wp2_with (refine wl_set rfl _ _ _ rfl kb j _ rfl rfl _ _ hrow hjc (by kernel_rfl) rfl ?_; intro w9 hr9 hg9)
            go_roundw
            case rel =>
              refine ⟨j + 1, HJ.out, by go_num, hTT.out w9 hg9, l.set j (bits .xor .u8 yb 255), by rw [List.length_set]; exact HLB.out.1, KS.out _ _ hr9.out, fun z hz => ?_⟩
              rcases List.mem_or_eq_of_mem_set hz with hz | rfl
              · exact HLB.out.2 z hz
              · exact hxr
            case measure => have := HJ.out; simp [intOf]; omega
          · have hjd : decide ((j : Int) < (X : Int)) = false := by simp; omega
            clear ho8 hl8 hl
            obtain ⟨DD, hDD⟩ : ∃ DD, DD = r'.dead := ⟨_, rfl⟩
            have hcD : c'.dead = DD := by rw [hDD]; exact hT8.lk.2.2.1
            have hdd : (DD != DD) = false := by simp
            have hee : (E != E) = false := by simp
            obtain ⟨L, hL⟩ : ∃ L, L = r'.l := ⟨_, rfl⟩
            have hcL : c'.l = L := by rw [hL]; exact hT8.lk.1
            have hLB : Byt L := by rw [hL]; exact hT8.ok.byt
            have HLL := (show Hid (L.length ≤ 4194304) by show _ ≤ _; rw [hL]; exact hT8.ok.len)
            obtain ⟨aw, cw, evw, _⟩ := hT8.rd.form
            have HT8 := (show Hid (∀ u, Below wr.heap.size wr u → Two w b g u vd' vw' c' r') from fun u hu => hT8.below hu)
            have HSZ := (show Hid (w.heap.size ≤ wr.heap.size) from hT8.bel.size)
            have HDe := (show Hid (∀ u, Below wr.heap.size wr u → Calls Try.prog 20 #[.pointer (some ⟨b, 0, none⟩)] u fun e w' => e = .returned (.bool DD) ∧ w' = u) from fun u hu => by have := dead_any u b _ _ (HT8.out u hu).dsk; rwa [hcD] at this)
            have HBy := (show Hid (∀ u, Below wr.heap.size wr u → Calls Try.prog 22 #[.pointer (some ⟨b, 0, none⟩)] u fun e w' => ∃ v', e = .returned v' ∧ Own w' 5 v' (bc L) ∧ Fr wr.heap.size v' ∧ Below wr.heap.size wr w') from fun u hu => by
              have := bytesD_any u b _ _ (HT8.out u hu).dsk
              rw [hcL] at this
              exact this.mono fun e w' ⟨v', e1, e2, e3, e4⟩ => ⟨v', e1, e2, e3.mono hu.size, below_and hu (Nat.le_refl _) e4⟩)
            have HSa := (show Hid (∀ u v', Below wr.heap.size wr u → Own u 5 v' (bc L) → Calls Try.prog 21 #[v', vw'] u fun e w' => e = .returned (.bool true) ∧ w' = u) from fun u v' hu ho => by
              have := same_any u v' vw' L L (ho.rd hLB) (by rw [hL]; exact (HT8.out u hu).rd)
              rwa [decide_eq_true rfl] at this)
            have SK := (show Hid (∀ u, Below wr.heap.size wr u → u.cell? ⟨g, 0, none⟩ = some vw' ∧ u.cell? ⟨g, 2, none⟩ = some (.bool DD)) from fun u hu => ⟨(HT8.out u hu).row.cell (j := 0) rfl, by rw [hDD]; exact (HT8.out u hu).row.cell (j := 2) rfl⟩)
            have HVL := (show Hid (vw' = .slice aw r'.l.length cw) from evw)
            have hdw : Below wr.heap.size wr wr.drew := ⟨rfl, rfl, rfl, Nat.le_refl _, fun _ _ => rfl⟩
            obtain ⟨s0, s2⟩ := SK.out wr (Below.refl _ _)
            clear hDD hcD hL hcL hT8 evw
            go_upto_region 39 with fail
            go_cut [129] from 112 to 129 (fun s129 wx => s129 = .bool false ∧ Below wr.heap.size wr wx)
            case first =>
              go_region_held3 (fun u => u.cell? ⟨g, 0, none⟩ = some vw' ∧ u.cell? ⟨g, 2, none⟩ = some (.bool DD))
                (first | (with_reducible exact SK.out w9 hB9) | (with_reducible exact SK.out wr (Below.refl _ _)) | (with_reducible exact SK.out wr.drew hdw) | go_keep)
                (first
                  | (go_at_call 21; refine (HSa.out _ _ (by first | (with_reducible exact hB9) | (with_reducible exact hB9.drew)) (by first | (with_reducible exact ho9) | (with_reducible exact ho9.drew))).mono ?_; rintro e w10 ⟨rfl, rfl⟩)
                  | (go_at_call 22; refine (HBy.out _ (by first | (with_reducible exact Below.refl _ _) | (with_reducible exact hdw))).mono ?_; rintro e w9 ⟨v9, rfl, ho9, hf9, hB9⟩)
                  | (go_at_call 20; refine (HDe.out _ (by first | (with_reducible exact Below.refl _ _) | (with_reducible exact hdw))).mono ?_; rintro e w8 ⟨rfl, rfl⟩))
              all_goals (
                go_wp2_with fail
                go_meet
                exact ⟨rfl, hB9⟩)
            case rest =>
              obtain ⟨rfl, hBc⟩ := hcut
              have hT9 := HT8.out wc hBc
              have HBc := HBy.out wc hBc
              clear s0 s2 hdw HDe HSa SK HBy
              go_upto_region 42 with (go_at_call 22; refine HBc.mono ?_; rintro e w11 ⟨v11, rfl, ho11, hf11, hB11⟩)
              have hT11 := HT8.out w11 hB11
              have hfo11 : Fr w.heap.size v11 := hf11.mono (by have := hT11.bel.size; have := hB11.size; exact HSZ.out)
              have d1 : ∀ k, v11.ownBlock = some k → vd'.ownBlock ≠ some k := fun k hk e => by have := hf11 k hk; have := (HT8.out wr (Below.refl _ _)).dsk.own.lt k e; omega
              have d2 : r'.l ≠ [] → ∀ k, v11.ownBlock = some k → vw'.ownBlock ≠ some k := fun hx k hk e => by have := hf11 k hk; have := (HT8.out wr (Below.refl _ _)).rd.lt hx k e; omega
              obtain ⟨Y, hY⟩ : ∃ Y, Y = L.length := ⟨_, rfl⟩
              have hYb : (Y : Int) ≤ 4194304 := by have := HLL.out; omega
              obtain ⟨bo, bco, eb, hbc1, hbc2⟩ : ∃ ao co, v11 = .slice ao Y co ∧ Y ≤ co ∧ co ≤ maxLen := by
                obtain ⟨_, av, cv, e, h1, h2, _⟩ := ho11.rd hLB
                rw [bc_len, ← hY] at e h1
                exact ⟨av, cv, e, h1, h2⟩
              have HO11 := (show Hid (∃ l : List Int, l.length = Y ∧ Own w11 5 (.slice bo Y bco) (bc l) ∧ Byt l) from ⟨L, hY.symm, by rw [← eb]; exact ho11, hLB⟩)
              have hfo11' : Fr w.heap.size (.slice bo Y bco) := by rw [← eb]; exact hfo11
              have d1' : ∀ k, (Value.slice bo Y bco).ownBlock = some k → vd'.ownBlock ≠ some k := by rw [← eb]; exact d1
              have d2' : r'.l ≠ [] → ∀ k, (Value.slice bo Y bco).ownBlock = some k → vw'.ownBlock ≠ some k := by rw [← eb]; exact d2
              clear ho11 d1 d2 hfo11 hY hT9 hBc HBc hf11
              subst eb
              go_wp2_with fail
              go_loopw [134] (fun i wx => ∃ j : Nat, j ≤ Y ∧ i = .int .i64 j ∧ Two w b g wx vd' vw' c' r' ∧ ∃ l : List Int, l.length = Y ∧ Own wx 5 (.slice bo Y bco) (bc l) ∧ Byt l) (fun i _ => Y - (intOf i).toNat)
              case atStart => exact ⟨0, by omega, rfl, hT11, HO11.out⟩
              case round =>
                clear hT11 HO11 hB11 HT8
                obtain ⟨j, hj, rfl, hT8, l, hl, ho8, hl8⟩ := hrel
                by_cases hjx : j < Y
                · obtain ⟨kb, cap, cur, yb, e, _, _, hrow, hjc, hcy, hly, hset⟩ := ho8.at_byteD (j := j) (by omega)
                  have hok : (Value.slice bo Y bco).ownBlock = some kb := by rw [e]; rfl
                  have hTT := (show Hid (∀ wz, wr.grownBy wz (some kb) → Two w b g wz vd' vw' c' r') from fun wz hg => hT8.turn (o := .slice bo Y bco) (xs := []) (j := j) (x := 0) hg hrow hok hfo11' d1' d2')
                  injection e with e1 e2 e3
                  clear e2
                  subst e1 e3
                  have hji : (j : Int) < (Y : Int) := by omega
                  have HJ := (show Hid (j + 1 ≤ Y) by show _ ≤ _; omega)
                  have hcc := hrow.cell hcy
                  have hyb := hl8 yb (List.mem_of_getElem? hly)
                  have hxr := xor_rngD hyb
                  have KS := (show Hid (∀ (w' : World) (x : Int), Row w' kb 5 (cur.set j (.int .u8 x)) → Own w' 5 (.slice (some ⟨kb, 0, none⟩) Y bco) (bc (l.set j x))) from hset)
                  have HLB := (show Hid (l.length = Y ∧ Byt l) from ⟨hl, hl8⟩)
                  clear hset ho8 hcy hly hl hl8 hT8
                  go_wp2_with (refine wl_set rfl _ _ _ rfl kb j _ rfl rfl _ _ hrow hjc (by kernel_rfl) rfl ?_; intro w9 hr9 hg9)
                  go_roundw
                  case rel =>
                    refine ⟨j + 1, HJ.out, by go_num, hTT.out w9 hg9, l.set j (bits .xor .u8 yb 255), by rw [List.length_set]; exact HLB.out.1, KS.out _ _ hr9.out, fun z hz => ?_⟩
                    rcases List.mem_or_eq_of_mem_set hz with hz | rfl
                    · exact HLB.out.2 z hz
                    · exact hxr
                  case measure => have := HJ.out; simp [intOf]; omega
                · have hjd : decide ((j : Int) < (Y : Int)) = false := by simp; omega
                  go_wp2_with fail
                  go_roundw
                  case rel => exact ⟨k + 1, _, _, _, _, by omega, by go_num, hT8⟩
                  case measure => simp [intOf]; omega
    · have hki : decide ((k : Int) < (N : Int)) = false := by simp; omega
      obtain ⟨L, hL⟩ : ∃ L, L = r.l := ⟨_, rfl⟩
      have hcL : c.l = L := by rw [hL]; exact hT.lk.1
      have hLB : Byt L := by rw [hL]; exact hT.ok.byt
      have HT8 := (show Hid (∀ u, Below wr.heap.size wr u → Two w b g u vd vw c r) from fun u hu => hT.below hu)
      have HBy := (show Hid (∀ u, Below wr.heap.size wr u → Calls Try.prog 22 #[.pointer (some ⟨b, 0, none⟩)] u fun e w' => ∃ v', e = .returned v' ∧ Own w' 5 v' (bc L) ∧ Fr wr.heap.size v' ∧ Below wr.heap.size wr w') from fun u hu => by
        have := bytesD_any u b _ _ (HT8.out u hu).dsk
        rw [hcL] at this
        exact this.mono fun e w' ⟨v', e1, e2, e3, e4⟩ => ⟨v', e1, e2, e3.mono hu.size, below_and hu (Nat.le_refl _) e4⟩)
      have HSa := (show Hid (∀ u v', Below wr.heap.size wr u → Own u 5 v' (bc L) → Calls Try.prog 21 #[v', vw] u fun e w' => e = .returned (.bool true) ∧ w' = u) from fun u v' hu ho => by
        have := same_any u v' vw L L (ho.rd hLB) (by rw [hL]; exact (HT8.out u hu).rd)
        rwa [decide_eq_true rfl] at this)
      have SK := (show Hid (∀ u, Below wr.heap.size wr u → u.cell? ⟨g, 0, none⟩ = some vw) from fun u hu => (HT8.out u hu).row.cell (j := 0) rfl)
      have hdw : Below wr.heap.size wr wr.drew := ⟨rfl, rfl, rfl, Nat.le_refl _, fun _ _ => rfl⟩
      have s0 := SK.out wr (Below.refl _ _)
      have hbel := hT.bel
      clear hL hcL hT
      go_wp2_with fail
      go_region_held3 (fun u => u.cell? ⟨g, 0, none⟩ = some vw)
        (first | (with_reducible exact SK.out w9 hB9) | (with_reducible exact SK.out wr (Below.refl _ _)) | (with_reducible exact SK.out wr.drew hdw) | go_keep)
        (first
          | (go_at_call 21; refine (HSa.out _ _ (by first | (with_reducible exact hB9) | (with_reducible exact hB9.drew)) (by first | (with_reducible exact ho9) | (with_reducible exact ho9.drew))).mono ?_; rintro e w10 ⟨rfl, rfl⟩)
          | (go_at_call 22; refine (HBy.out _ (by first | (with_reducible exact Below.refl _ _) | (with_reducible exact hdw))).mono ?_; rintro e w9 ⟨v9, rfl, ho9, hf9, hB9⟩))
      all_goals (
        go_wp2_with fail
        go_ret
        exact ⟨rfl, below_and hbel le hB9⟩)
end Go.Proofs.Ytnalakdnjjmaaaa
