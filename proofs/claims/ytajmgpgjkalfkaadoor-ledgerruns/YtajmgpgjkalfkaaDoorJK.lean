/- The document's Evidence. -/
import Derived.Test.YtajmgpgjkalfkaaDoorJB
import Derived.Test.YtajmgpgjkalfkaaDoorLc
import Derived.Test.YtajmgpgjkalfkaaDoorW1
import Derived.Test.YtajmgpgjkalfkaaDoorJA
import Derived.Test.YtajmgpgjkalfkaaDoorJE
section
set_option linter.unusedVariables false
set_option linter.unusedSimpArgs false
namespace Go.Proofs.YtajmgpgjkalfkaaDoor
open Go.RowKit Oct Kvl

/-- A seen vote's cells. -/
def snc (z : PSn) (o p s : Value) : List Value := [.int .i64 z.key.1, .int .i64 z.key.2.2.2.1, .int .i64 z.key.2.2.2.2, .int .i64 z.key.2.1, .int .i64 z.key.2.2.1, .int .i64 z.req.1, .int .i64 z.req.2.1, o, p, s, .bool z.told]
def RSe (w0 : World) (_ : Nat → Prop) (_ : World) (r : List Value) (z : PSn) : Prop := ∃ o p s, r = snc z o p s ∧ RT Any w0 o z.req.2.2.1 ∧ RT Any w0 p z.req.2.2.2 ∧ RT Any w0 s z.sig
theorem mov_se (w0 : World) : Mov (RSe w0) := fun _ _ _ _ _ _ h _ _ => h
theorem one_snc {z : PSn} {o p s : Value} (h1 : o.oneCell' = true) (h2 : p.oneCell' = true) (h3 : s.oneCell' = true) : ∀ v ∈ snc z o p s, v.oneCell' = true := by
  intro v hv
  simp only [snc, List.mem_cons, List.not_mem_nil, or_false] at hv
  rcases hv with rfl | rfl | rfl | rfl | rfl | rfl | rfl | rfl | rfl | rfl | rfl <;> first | rfl | assumption
theorem one_RSe {w0 : World} {G : Nat → Prop} {w : World} {r : List Value} {z : PSn} (h : RSe w0 G w r z) : ∀ v ∈ r, v.oneCell' = true := by
  obtain ⟨o, p, s, rfl, h1, h2, h3⟩ := h
  exact one_snc h1.one h2.one h3.one
theorem len_RSe {w0 : World} {G : Nat → Prop} {w : World} {r : List Value} {z : PSn} (h : RSe w0 G w r z) : r.length = 11 := by obtain ⟨o, p, s, rfl, _⟩ := h; rfl
def zSn : List Value := [.int .i64 0, .int .i64 0, .int .i64 0, .int .i64 0, .int .i64 0, .int .i64 0, .int .i64 0, .slice none 0 0, .slice none 0 0, .slice none 0 0, .bool false]
/-- Where find finds it. -/
def fI (ls : List PSn) (q : PK) : Int := match fnd q (keysL ls) with
  | none => -1
  | some j => (j : Int)
theorem fI_none {ls : List PSn} {q : PK} (h : fnd q (keysL ls) = none) : fI ls q = -1 := by unfold fI; rw [h]
theorem fI_some {ls : List PSn} {q : PK} {j : Nat} (h : fnd q (keysL ls) = some j) : fI ls q = (j : Int) := by unfold fI; rw [h]
theorem fnd_first {q : PK} : ∀ {ks : List PK} {j : Nat}, ks[j]? = some q → (∀ i < j, ks[i]? ≠ some q) → fnd q ks = some j
  | [], j, h, _ => by simp at h
  | k :: ks, 0, h, _ => by simp at h; simp [fnd, h]
  | k :: ks, j + 1, h, hn => by
    have h0 : q ≠ k := fun e => hn 0 (by omega) (by simp [e])
    simp [fnd, h0, fnd_first (ks := ks) (j := j) (by simpa using h) (fun i hi => by simpa using hn (i + 1) (by omega))]
theorem fnd_no {q : PK} : ∀ {ks : List PK}, (∀ i < ks.length, ks[i]? ≠ some q) → fnd q ks = none
  | [], _ => rfl
  | k :: ks, hn => by
    have h0 : q ≠ k := fun e => hn 0 (by simp) (by simp [e])
    simp [fnd, h0, fnd_no (ks := ks) (fun i hi => by simpa using hn (i + 1) (by simpa using hi))]
set_option maxRecDepth 10000 in
set_option maxHeartbeats 2000000 in
theorem refFind_any (w0 w : World) (v : Value) (ls : List PSn) (h : RL (RSe w0) 11 Any w v ls) (hl : ls.length ≤ 10000) (k x y s i : Int) :
    Calls Tryd.prog 27 #[v, .int .i64 k, .agg #[.int .i64 x, .int .i64 y], .agg #[.int .i64 s, .int .i64 i]] w fun e w' => e = .returned (.int .i64 (fI ls (k, x, y, s, i))) ∧ Below w.heap.size w w' := by
  obtain ⟨av, cv, rfl, hcv⟩ := h.form
  obtain ⟨w1, hw1⟩ : ∃ w1, w1 = w.alloc (.cells #[.int .i64 x, .int .i64 y] 28) := ⟨_, rfl⟩
  obtain ⟨w2, hw2⟩ : ∃ w2, w2 = w1.alloc (.cells #[.int .i64 s, .int .i64 i] 60) := ⟨_, rfl⟩
  have e1 : w1.heap.size = w.heap.size + 1 := by rw [hw1]; simp
  have B1 : Below w.heap.size w w1 := by rw [hw1]; exact below_alloc _ _
  have B2 : Below w1.heap.size w1 w2 := by rw [hw2]; exact below_alloc _ _
  have ra : Row w1 w.heap.size 28 [.int .i64 x, .int .i64 y] := by rw [hw1]; exact Row.new _ _ _
  have rb : Row w2 (w.heap.size + 1) 60 [.int .i64 s, .int .i64 i] := by rw [hw2, ← e1]; exact Row.new _ _ _
  have ra := ra.below B2
  have B : Below w.heap.size w w2 := below_and B1 (Nat.le_refl _) B2
  have hw : w2 = (w.alloc (.cells #[.int .i64 x, .int .i64 y] 28)).alloc (.cells #[.int .i64 s, .int .i64 i] 60) := by rw [hw2, hw1]
  clear hw1 hw2 e1 B1 B2
  have h := h.mv (mov_se w0) B.size (Mv.below B)
  go_enter Tryd.func27, Tryd.ntmps27
  go_upto_region 1 with fail
  rw [← hw]
  clear hw
  obtain ⟨cB, hcB⟩ : ∃ c, c = w.heap.size := ⟨_, rfl⟩
  obtain ⟨cS, hcS⟩ : ∃ c, c = w.heap.size + 1 := ⟨_, rfl⟩
  rw [← hcS] at rb ⊢
  rw [← hcB] at ra
  have hgo : (.pointer (some ⟨w.heap.size, 0, none⟩) : Value) = .pointer (some ⟨cB, 0, none⟩) := by rw [hcB]
  rw [hgo]
  clear hcB hcS hgo
  go_wp2_with fail
  go_loopw [13] (fun j wr => ∃ n : Nat, n ≤ ls.length ∧ j = .int .i64 n ∧ Hid (∀ m < n, (keysL ls)[m]? ≠ some (k, x, y, s, i)) ∧ Below w2.heap.size w2 wr) (fun j _ => ls.length - (intOf j).toNat)
  case atStart => exact ⟨0, by omega, rfl, fun m hm => by omega, Below.refl _ _⟩
  case round =>
    obtain ⟨n, hn, rfl, HN, hB⟩ := hrel
    have ra := ra.below hB
    have rb := rb.below hB
    have a0 := ra.cell (j := 0) rfl; have a1 := ra.cell (j := 1) rfl; have a2 := rb.cell (j := 0) rfl; have a3 := rb.cell (j := 1) rfl
    by_cases hnl : n < ls.length
    · obtain ⟨z, hz⟩ : ∃ z, ls[n]? = some z := ⟨_, List.getElem?_eq_getElem hnl⟩
      have HZ := (show Hid ((keysL ls)[n]? = some z.key) by unfold keysL; rw [List.getElem?_map, hz]; rfl)
      obtain ⟨bv, off, cap, hve, _, _, _, hbv, hat⟩ := h.at (by omega)
      obtain ⟨rv, _, hrng, o, p, g, rfl, t1, t2, t3⟩ := hat n z hz
      injection hve with hv1 hv2 hv3
      subst hv1 hv3
      clear hv2 hat hz
      have hrng := rangeAt_block hrng (hB.block bv hbv)
      obtain ⟨ao, co, rfl, _⟩ := t1.form
      obtain ⟨ap, cp, rfl, _⟩ := t2.form
      obtain ⟨ag, cg, rfl, _⟩ := t3.form
      have hon := one_snc (z := z) t1.one t2.one t3.one
      have hrow0 := Row.new wr 68 zSn
      go_upto_region 4 with (first
        | (refine wpList_load_mid rfl _ _ rfl bv (off + n * 11) rfl (snc z _ _ _) _ hrng Tryd.underlying68 rfl (by kernel_rfl) ?_)
        | (refine wl_store rfl _ _ _ rfl wr.heap.size (snc z _ _ _) rfl rfl _ _ hrow0 rfl (by kernel_rfl) hon ?_; intro w5 r5 g5))
      have b5 : Below wr.heap.size wr w5 := (below_alloc wr (.cells (zSn : List Value).toArray 68)).trans (grown_below g5 (by simp) (fun k hk => by cases hk; exact Nat.le_refl _))
      have r5 := r5.out
      have hB5 := below_and hB (Nat.le_refl _) b5
      clear a0 a1 a2 a3
      have ra := ra.below b5
      have rb := rb.below b5
      have a0 := ra.cell (j := 0) rfl; have a1 := ra.cell (j := 1) rfl; have a2 := rb.cell (j := 0) rfl; have a3 := rb.cell (j := 1) rfl
      have c0 := r5.cell (j := 0) rfl; have c1 := r5.cell (j := 1) rfl; have c2 := r5.cell (j := 2) rfl; have c3 := r5.cell (j := 3) rfl; have c4 := r5.cell (j := 4) rfl
      obtain ⟨cX, hcX⟩ : ∃ c, c = wr.heap.size := ⟨_, rfl⟩
      rw [← hcX] at c0 c1 c2 c3 c4 ⊢
      clear hcX r5 g5 b5 hrow0 hrng hon
      obtain ⟨⟨k', x', y', s', i'⟩, zr, zs, zt⟩ := z
      simp only at c0 c1 c2 c3 c4
      by_cases hq : ((k', x', y', s', i') : PK) = (k, x, y, s, i)
      · simp only [Prod.mk.injEq] at hq
        obtain ⟨rfl, rfl, rfl, rfl, rfl⟩ := hq
        have HR := (show Hid (fI ls (k', x', y', s', i') = (n : Int)) from fI_some (fnd_first HZ.out HN.out))
        clear HZ HN
        go_wp2_with fail
        go_ret
        exact ⟨by rw [HR.out]; rfl, below_and B (Nat.le_refl _) hB5⟩
      · have HR := (show Hid (∀ m < n + 1, (keysL ls)[m]? ≠ some (k, x, y, s, i)) from fun m hm e => by
          by_cases hmn : m < n
          · exact HN.out m hmn e
          · obtain rfl : m = n := by omega
            rw [HZ.out] at e
            exact hq (Option.some.inj e))
        clear HZ HN
        have HQ := (show Hid (¬ ((k', x', y', s', i') : PK) = (k, x, y, s, i)) from hq)
        clear hq
        go_wp2_with fail
        · exfalso
          rename_i g1 g2 g3 g4 g5
          exact HQ.out (by rw [g1, g2, g3, g4, eq_of_beq g5])
        all_goals (
          go_roundw
          case rel => exact ⟨n + 1, by omega, by go_num, HR, hB5⟩
          case measure => simp [intOf]; omega)
    · have HR := (show Hid (fI ls (k, x, y, s, i) = -1) from fI_none (fnd_no (fun m hm => HN.out m (by unfold keysL at hm; simp at hm; omega))))
      clear HN
      go_wp2_with fail
      go_ret
      exact ⟨by rw [HR.out]; rfl, below_and B (Nat.le_refl _) hB⟩
end Go.Proofs.YtajmgpgjkalfkaaDoor
end

section
set_option linter.unusedVariables false
namespace Go.Proofs.YtajmgpgjkalfkaaDoor
open Go.RowKit Oct

theorem le8_at' (u : Int) (k : Nat) (hk : k < 8) : u / 256 ^ k % 256 = (le8 u).getD k 0 := by
  have := le8_at u k hk (8 * k) rfl
  rw [← this, Int.pow_mul]
  rfl
theorem u64_bd (n : Int) : 0 ≤ u64 n ∧ u64 n < 18446744073709551616 := by unfold u64; omega
theorem div_step (u : Int) (j : Nat) : u / 256 ^ j / 256 = u / 256 ^ (j + 1) := by
  rw [Int.pow_succ, Int.ediv_ediv_of_nonneg (by exact Int.le_of_lt (Int.pow_pos (by decide)))]
theorem div_bd {u : Int} (h0 : 0 ≤ u) (h1 : u < 18446744073709551616) (j : Nat) : 0 ≤ u / 256 ^ j ∧ u / 256 ^ j < 18446744073709551616 :=
  ⟨Int.ediv_nonneg h0 (Int.le_of_lt (Int.pow_pos (by decide))), Int.lt_of_le_of_lt (Int.ediv_le_self _ h0) h1⟩
theorem wrap_u64 (n : Int) : IntKind.u64.wrap n = u64 n := rfl

theorem idx0 (a b : Int) (w : World) : (Instr.index 95 (.agg #[.int .u64 a, .int .u64 b]) (.int .i64 0)).run Tryd.prog w = .ok (.int .u64 a) w := by kernel_rfl
theorem idx1 (a b : Int) (w : World) : (Instr.index 95 (.agg #[.int .u64 a, .int .u64 b]) (.int .i64 1)).run Tryd.prog w = .ok (.int .u64 b) w := by kernel_rfl
set_option maxRecDepth 10000 in
set_option maxHeartbeats 2000000 in
/-- The document's Body. -/
theorem refBody_any (w : World) (r : List Value) (x : PReq) (h : RReq Any w r x) (hz : tot [x.2.2.1, x.2.2.2] ≤ 10000000) :
    Calls Tryd.prog 26 #[.agg r.toArray] w fun e w' => ∃ v', e = .returned v' ∧ Own w' 5 v' (bc (body x)) ∧ Fr w.heap.size v' ∧ Below w.heap.size w w' := by
  obtain ⟨vo, vg, rfl, ho, hg⟩ := h
  obtain ⟨w2, hw2⟩ : ∃ w2, w2 = (w.alloc (.cells #[.int .i64 x.1, .int .i64 x.2.1, vo, vg] 31)) := ⟨_, rfl⟩
  have ra : Row w2 w.heap.size 31 [.int .i64 x.1, .int .i64 x.2.1, vo, vg] := by rw [hw2]; exact Row.new w 31 _
  have hB : Below w.heap.size w w2 := by rw [hw2]; exact ((Below.refl _ w).alloc (Nat.le_refl _) _)
  go_enter Tryd.func26, Tryd.ntmps26
  go_upto_region 1 with fail
  rw [← hw2]
  clear hw2
  have a0 := (row_alloc ra (.cells #[] 5)).cell (j := 0) rfl
  have a1 := (row_alloc ra (.cells #[] 5)).cell (j := 1) rfl
  go_wp2_with fail
  rw [wrap_u64, wrap_u64]
  have hstart : Own (w2.alloc (.cells #[] 5)) 5 (.slice (some ⟨w2.heap.size, 0, none⟩) 0 0) (bc []) := own_zero w2 5
  have hB0 : Below w2.heap.size w2 (w2.alloc (.cells #[] 5)) := below_alloc _ _
  have hF0 : Fr w2.heap.size (.slice (some ⟨w2.heap.size, 0, none⟩) 0 0) := fun k hk => by simp [Value.ownBlock] at hk; omega
  have HZ := (show Hid (x.2.2.1.length ≤ 10000000 ∧ x.2.2.2.length ≤ 10000000) by show _ ∧ _; simp only [tot] at hz; omega)
  have HS := (show Hid (∀ wr, Below w2.heap.size w2 wr → wr.cell? ⟨w.heap.size, 2, none⟩ = some vo ∧ wr.cell? ⟨w.heap.size, 3, none⟩ = some vg ∧ Rd wr vo x.2.2.1 ∧ Rd wr vg x.2.2.2) from fun wr hb =>
    ⟨(ra.below hb).cell (j := 2) rfl, (ra.below hb).cell (j := 3) rfl, (ho.mv (Mv.below (below_and hB (Nat.le_refl _) hb))).1, (hg.mv (Mv.below (below_and hB (Nat.le_refl _) hb))).1⟩)
  clear ra ho hg
  generalize w2.alloc (.cells #[] 5) = w3 at *
  go_loopw [3, 15] (fun o i wr => ∃ k : Int, k ≤ 2 ∧ i = .int .i64 k ∧ ((k = 0 ∧ Own wr 5 o (bc [])) ∨ (k = 1 ∧ Own wr 5 o (bc ([] ++ le8 (u64 x.1)))) ∨ (k = 2 ∧ Own wr 5 o (bc (le8 (u64 x.1) ++ le8 (u64 x.2.1))))) ∧ Fr w2.heap.size o ∧ Below w2.heap.size w2 wr) (fun _ i _ => (2 - intOf i).toNat)
  case atStart => exact ⟨0, by omega, rfl, .inl ⟨rfl, hstart⟩, hF0, hB0⟩
  case round =>
    clear hstart hF0 hB0 a0 a1
    obtain ⟨k, hk, rfl, hcase, hfk, hbk⟩ := hrel
    rcases hcase with ⟨rfl, hok⟩ | ⟨rfl, hok⟩ | ⟨rfl, hok⟩
    · have hub := u64_bd x.1
      have hix := idx0 (u64 x.1) (u64 x.2.1) wr
      have HD := (show Hid (([] : List Int).length ≤ 8) from Nat.zero_le 8)
      go_wp2_with fail
      go_loopw [3, 5, 6] (fun o n i wr => ∃ (j : Nat) (q : Int), j ≤ 8 ∧ i = .int .i64 j ∧ n = .int .u64 q ∧ Hid (q = u64 x.1 / 256 ^ j) ∧ Own wr 5 o (bc ([] ++ (le8 (u64 x.1)).take j)) ∧ Fr w2.heap.size o ∧ Below w2.heap.size w2 wr) (fun _ _ i _ => (8 - intOf i).toNat)
      case atStart => exact ⟨0, u64 x.1, by omega, rfl, rfl, by show _ = _; simp, by rw [List.take_zero, List.append_nil]; exact hok, hfk, hbk⟩
      case round =>
        clear hok hfk hbk hix
        obtain ⟨j, q, hj, rfl, rfl, HQ, hok, hfk, hbk⟩ := hrel
        by_cases hj8 : j < 8
        · have hq := div_bd hub.1 hub.2 j
          rw [← HQ.out] at hq
          obtain ⟨hq0, hq1⟩ := hq
          have hq2 : 0 ≤ q % 256 ∧ q % 256 ≤ 255 := by omega
          have hq3 : 0 ≤ q / 256 ∧ q / 256 < 18446744073709551616 := by omega
          have HX := (show Hid ([] ++ (le8 (u64 x.1)).take (j + 1) = ([] ++ (le8 (u64 x.1)).take j) ++ [q % 256]) by
            show _ = _
            rw [HQ.out, le8_at' _ _ hj8]
            exact le8_take _ _ _ hj8)
          have HN := (show Hid (q / 256 = u64 x.1 / 256 ^ (j + 1)) by show _ = _; rw [HQ.out, div_step])
          have HT := (show Hid (([] ++ (le8 (u64 x.1)).take j).length ≤ 1000) by
            show _ ≤ _
            have := HD.out
            rw [List.length_append, List.length_take, le8_len]
            omega)
          clear HQ
          go_wp2_with (at_builtin; refine app_bytes rfl _ _ rfl _ ([] ++ (le8 (u64 x.1)).take j) rfl (World.ownsRow.alloc hok _) _ [q % 256] rfl (rdv_one wr _ _) (by have := HT.out; simp only [List.length_cons, List.length_nil]; omega) ?_; intro o4 w4 happ4)
          have hp4 := happ4.pre (below_alloc wr _)
          rw [← HX.out] at hp4
          have hf4 := hp4.fr hfk hbk.size
          have hb4 := hbk.trans (hp4.below hfk hbk.size)
          have hgo := hp4.own
          clear hp4 happ4 hok hfk hbk
          go_roundw
          case rel => exact ⟨j + 1, q / 256, by omega, by go_num, by rfl, HN, hgo, hf4, hb4⟩
          case measure => simp [intOf]; omega
        · rw [List.take_of_length_le (by rw [le8_len]; omega)] at hok
          clear HQ
          go_wp2_with fail
          go_roundw
          case rel => exact ⟨1, by omega, by go_num, .inr (.inl ⟨rfl, hok⟩), hfk, hbk⟩
          case measure => simp [intOf]
    · rw [List.nil_append] at hok
      have hub := u64_bd x.2.1
      have hix := idx1 (u64 x.1) (u64 x.2.1) wr
      have HD := (show Hid ((le8 (u64 x.1)).length ≤ 8) from Nat.le_refl 8)
      go_wp2_with fail
      go_loopw [3, 5, 6] (fun o n i wr => ∃ (j : Nat) (q : Int), j ≤ 8 ∧ i = .int .i64 j ∧ n = .int .u64 q ∧ Hid (q = u64 x.2.1 / 256 ^ j) ∧ Own wr 5 o (bc (le8 (u64 x.1) ++ (le8 (u64 x.2.1)).take j)) ∧ Fr w2.heap.size o ∧ Below w2.heap.size w2 wr) (fun _ _ i _ => (8 - intOf i).toNat)
      case atStart => exact ⟨0, u64 x.2.1, by omega, rfl, rfl, by show _ = _; simp, by rw [List.take_zero, List.append_nil]; exact hok, hfk, hbk⟩
      case round =>
        clear hok hfk hbk hix
        obtain ⟨j, q, hj, rfl, rfl, HQ, hok, hfk, hbk⟩ := hrel
        by_cases hj8 : j < 8
        · have hq := div_bd hub.1 hub.2 j
          rw [← HQ.out] at hq
          obtain ⟨hq0, hq1⟩ := hq
          have hq2 : 0 ≤ q % 256 ∧ q % 256 ≤ 255 := by omega
          have hq3 : 0 ≤ q / 256 ∧ q / 256 < 18446744073709551616 := by omega
          have HX := (show Hid (le8 (u64 x.1) ++ (le8 (u64 x.2.1)).take (j + 1) = (le8 (u64 x.1) ++ (le8 (u64 x.2.1)).take j) ++ [q % 256]) by
            show _ = _
            rw [HQ.out, le8_at' _ _ hj8]
            exact le8_take _ _ _ hj8)
          have HN := (show Hid (q / 256 = u64 x.2.1 / 256 ^ (j + 1)) by show _ = _; rw [HQ.out, div_step])
          have HT := (show Hid ((le8 (u64 x.1) ++ (le8 (u64 x.2.1)).take j).length ≤ 1000) by
            show _ ≤ _
            have := HD.out
            rw [List.length_append, List.length_take, le8_len]
            omega)
          clear HQ
          go_wp2_with (at_builtin; refine app_bytes rfl _ _ rfl _ (le8 (u64 x.1) ++ (le8 (u64 x.2.1)).take j) rfl (World.ownsRow.alloc hok _) _ [q % 256] rfl (rdv_one wr _ _) (by have := HT.out; simp only [List.length_cons, List.length_nil]; omega) ?_; intro o4 w4 happ4)
          have hp4 := happ4.pre (below_alloc wr _)
          rw [← HX.out] at hp4
          have hf4 := hp4.fr hfk hbk.size
          have hb4 := hbk.trans (hp4.below hfk hbk.size)
          have hgo := hp4.own
          clear hp4 happ4 hok hfk hbk
          go_roundw
          case rel => exact ⟨j + 1, q / 256, by omega, by go_num, by rfl, HN, hgo, hf4, hb4⟩
          case measure => simp [intOf]; omega
        · rw [List.take_of_length_le (by rw [le8_len]; omega)] at hok
          clear HQ
          go_wp2_with fail
          go_roundw
          case rel => exact ⟨2, by omega, by go_num, .inr (.inr ⟨rfl, hok⟩), hfk, hbk⟩
          case measure => simp [intOf]
    · have ho5 := HS.out wr hbk
      obtain ⟨c2, c3, ho5, hg5⟩ := ho5
      have hbO := refBytes_any wr vo _ ho5 (by have := HZ.out; omega)
      have HG := (show Hid (∀ w', Below w2.heap.size w2 w' → Calls Tryd.prog 44 #[vg] w' fun e w'' => ∃ v', e = .returned v' ∧ Own w'' 5 v' (bc (enc x.2.2.2.length ++ x.2.2.2)) ∧ Fr w'.heap.size v' ∧ Below w'.heap.size w' w'') from
        fun w' hb' => refBytes_any w' vg _ (HS.out w' hb').2.2.2 (by have := HZ.out; omega))
      have HLL := (show Hid ((le8 (u64 x.1) ++ le8 (u64 x.2.1)).length ≤ 16) from Nat.le_refl 16)
      have HBD := (show Hid (body x = ((le8 (u64 x.1) ++ le8 (u64 x.2.1)) ++ (enc x.2.2.1.length ++ x.2.2.1)) ++ (enc x.2.2.2.length ++ x.2.2.2)) by show _ = _; simp [body, packL])
      generalize le8 (u64 x.1) ++ le8 (u64 x.2.1) = L at *
      have hl1 := enc_len (x.2.2.1.length : Int)
      have hl2 := enc_len (x.2.2.2.length : Int)
      have HL1 := (show Hid (L.length + (enc x.2.2.1.length ++ x.2.2.1).length ≤ 20000000) by show _ ≤ _; have := HLL.out; have := HZ.out; rw [List.length_append]; omega)
      have HL2 := (show Hid ((L ++ (enc x.2.2.1.length ++ x.2.2.1)).length + (enc x.2.2.2.length ++ x.2.2.2).length ≤ 40000000) by show _ ≤ _; have := HLL.out; have := HZ.out; rw [List.length_append, List.length_append, List.length_append]; omega)
      clear hl1 hl2
      generalize enc x.2.2.1.length ++ x.2.2.1 = t1 at *
      generalize enc x.2.2.2.length ++ x.2.2.2 = t2 at *
      have HO := (show Hid (∀ _ : Unit, _) from fun _ => hbO)
      clear hbO ho5 hg5 c3
      go_wp2_with fail
      refine (HO.out ()).mono ?_
      rintro e w5 ⟨v5, rfl, hown5, hfr5, hb5⟩
      have hok5 := hok.below hb5
      have hrd5 := hown5.rdv
      have hBk5 := below_and hbk (Nat.le_refl _) hb5
      clear c2 hok hown5 hfr5 hb5 HO hbk
      go_wp2_with (first
        | (at_builtin; refine app_bytes rfl _ _ rfl _ L rfl hok5 v5 t1 rfl hrd5 (Nat.le_trans HL1.out (by decide)) ?_; intro v6 w6 happ6; have hB6 := hBk5.trans (happ6.below hfk hBk5.size); have hf6 := happ6.fr hfk hBk5.size; have hok6 := happ6.own; have c3 := (HS.out w6 hB6).2.1))
      refine (HG.out w6 hB6).mono ?_
      rintro e w7 ⟨v7, rfl, hown7, hfr7, hb7⟩
      have hok7 := hok6.below hb7
      have hrd7 := hown7.rdv
      have hB7 := below_and hB6 (Nat.le_refl _) hb7
      clear c3 hok6 hown7 hfr7 hb7 HG hok5 hrd5 happ6
      go_wp2_with (at_builtin; refine app_bytes rfl _ _ rfl v6 (L ++ t1) rfl hok7 v7 t2 rfl hrd7 (Nat.le_trans HL2.out (by decide)) ?_; intro v8 w8 happ8)
      have hf8 := happ8.fr hf6 hB7.size
      have hB8 := hB7.trans (happ8.below hf6 hB7.size)
      go_ret
      refine ⟨_, rfl, ?_, hf8.mono hB.size, below_and hB (Nat.le_refl _) hB8⟩
      rw [HBD.out]
      exact happ8.own
end Go.Proofs.YtajmgpgjkalfkaaDoor
end

section
set_option linter.unusedVariables false
set_option linter.unusedSimpArgs false
namespace Go.Proofs.YtajmgpgjkalfkaaDoor
open Go.RowKit Oct Kvl

theorem less_cmp : ∀ {a b : List Int}, Byt a → Byt b → Op.bytesLess (a.map fun n => UInt8.ofNat n.toNat) (b.map fun n => UInt8.ofNat n.toNat) = decide (cmpL a b < 0)
  | [], [], _, _ => rfl
  | [], _ :: _, _, _ => rfl
  | _ :: _, [], _, _ => rfl
  | x :: a, y :: b, ha, hb => by
    have hx := ha x (by simp)
    have hy := hb y (by simp)
    have ih := less_cmp (a := a) (b := b) (fun z hz => ha z (by simp [hz])) (fun z hz => hb z (by simp [hz]))
    simp only [List.map_cons, Op.bytesLess, ih, cmpL]
    have h1 : (UInt8.ofNat x.toNat < UInt8.ofNat y.toNat) ↔ x < y := u8_lt hx hy
    by_cases hxy : x < y
    · simp [hxy, h1]
    · by_cases hyx : y < x
      · have h2 : ¬ (UInt8.ofNat x.toNat = UInt8.ofNat y.toNat) := by
          intro e
          have := congrArg UInt8.toNat e
          simp at this
          omega
        simp [hxy, h1, hyx, h2]
      · obtain rfl : x = y := by omega
        simp
theorem cmp_str {a b : List Int} (ha : Byt a) (hb : Byt b) : (!Op.bytesLess (strOfNums a).toList (strOfNums b).toList && !(strOfNums a).toList == (strOfNums b).toList) = decide (0 < cmpL a b) := by
  have e : ∀ l : List Int, (strOfNums l).toList = l.map fun n => UInt8.ofNat n.toNat := fun l => by rw [ByteArray.toList_eq]; rfl
  rw [e, e, less_cmp ha hb]
  have hs : (a.map (fun n => UInt8.ofNat n.toNat) == b.map fun n => UInt8.ofNat n.toNat) = decide (a = b) := by
    have := str_eq ha hb
    rw [e, e] at this
    exact this
  rw [hs]
  rcases cmp_rng a b with h | h | h
  · rw [h]; simp
  · have := cmp_zero.1 h
    rw [h]; simp [this]
  · have hne : a ≠ b := fun e => by rw [e, cmp_self] at h; omega
    rw [h]; simp [hne]

section
variable {P : Program}
theorem run_setP {w : World} {b : Nat} {t : TypeId} {xs : List Value} (h : Row w b t xs) (ty : TypeId) (off : Nat) (ys : List Value) (hi : (P.info? ty).map (·.size) = some ys.length) (hj : off + ys.length ≤ xs.length) (h1 : ∀ v ∈ ys, v.oneCell' = true) :
    (storeVar ty ⟨b, off, none⟩ (.agg ys.toArray)).run P w = .ok () (w.setRow b (xs.take off ++ ys ++ xs.drop (off + ys.length)).toArray) := by
  have := run_storeCells_at P b off t ys 0 xs.toArray w h (by simp; omega) h1
  cases hq : P.info? ty with
  | none => simp [hq] at hi
  | some i =>
    have hs : i.size = ys.length := by simpa [hq] using hi
    simp only [Nat.add_zero] at this
    simp [storeVar, sizeOf, typeInfo, hq, hs, this, Value.cells]
/-- A struct is stored into the midst of a row. -/
theorem wl_storeP {ops : Array Oper} {rest : List Oper} {o : Oper} {a : Act} {w : World} {Q : Exit → Act → World → Prop} (hgd : o.guard = none) (ty : TypeId) (x y : Operand) (ho : o.op = .store ty x y)
    (b off : Nat) (ys : List Value) (hx : a.eval x = .pointer (some ⟨b, off, none⟩)) (hy : a.eval y = .agg ys.toArray) (t : TypeId) (xs : List Value) (h : Row w b t xs) (hj : off + ys.length ≤ xs.length)
    (hi : (P.info? ty).map (·.size) = some ys.length) (h1 : ∀ v ∈ ys, v.oneCell' = true) (k : ∀ w', Hid (Row w' b t (xs.take off ++ ys ++ xs.drop (off + ys.length))) → w.grownBy w' (some b) → wpList P ops Q rest (a.put o.dst undef) w') : wpList P ops Q (o :: rest) a w :=
  wpList_plain hgd fun _ hK => by
    unfold Oper.wp execOp
    simp only [ho, hx, hy, Instr.storeAt, Instr.sureAddr, Sem.run_bind, Sem.run_pure, Result.andThen_ok, run_setP h ty off ys hi hj h1]
    exact hK _ _ (k _ (h.setRow _) (grown_setRow _ _ _))
end

set_option maxRecDepth 10000 in
set_option maxHeartbeats 4000000 in
theorem refEvidence_any (w0 w : World) (hb0 : Below w0.heap.size w0 w) (z : PSn) (o1 p1 s1 : Value) (t1 : RT Any w0 o1 z.req.2.2.1) (t2 : RT Any w0 p1 z.req.2.2.2) (t3 : RT Any w0 s1 z.sig) (r : PReq) (o2 p2 s2 : Value) (g : List Int) (t4 : RT Any w0 o2 r.2.2.1) (t5 : RT Any w0 p2 r.2.2.2) (t6 : RT Any w0 s2 g)
    (hz : tot [z.req.2.2.1, z.req.2.2.2] ≤ 2000000) (hr : tot [r.2.2.1, r.2.2.2] ≤ 2000000) :
    Calls Tryd.prog 29 #[.agg (snc z o1 p1 s1).toArray, .agg #[.int .i64 r.1, .int .i64 r.2.1, o2, p2], s2] w fun e w' => ∃ sv, e = .returned (.agg (mc (evL z.key z.req z.sig r g) sv).toArray) ∧ SOk Any w0 (evL z.key z.req z.sig r g) sv ∧ Below w.heap.size w w' := by
  obtain ⟨⟨k, x, y, sl, i⟩, zr, zs, zt⟩ := z
  simp only at t1 t2 t3 hz ⊢
  obtain ⟨ao1, co1, rfl, _⟩ := t1.form
  obtain ⟨ap1, cp1, rfl, _⟩ := t2.form
  obtain ⟨as1, cs1, rfl, _⟩ := t3.form
  obtain ⟨ao2, co2, rfl, _⟩ := t4.form
  obtain ⟨ap2, cp2, rfl, _⟩ := t5.form
  obtain ⟨as2, cs2, rfl, _⟩ := t6.form
  simp only [snc]
  obtain ⟨w1, hw1⟩ : ∃ w1, w1 = w.alloc (.cells #[.int .i64 k, .int .i64 sl, .int .i64 i, .int .i64 x, .int .i64 y, .int .i64 zr.1, .int .i64 zr.2.1, .slice ao1 zr.2.2.1.length co1, .slice ap1 zr.2.2.2.length cp1, .slice as1 zs.length cs1, .bool zt] 68) := ⟨_, rfl⟩
  obtain ⟨w2, hw2⟩ : ∃ w2, w2 = w1.alloc (.cells #[.int .i64 r.1, .int .i64 r.2.1, .slice ao2 r.2.2.1.length co2, .slice ap2 r.2.2.2.length cp2] 31) := ⟨_, rfl⟩
  obtain ⟨w3, hw3⟩ : ∃ w3, w3 = w2.alloc (.cells z23.toArray 48) := ⟨_, rfl⟩
  have e1 : w1.heap.size = w.heap.size + 1 := by rw [hw1]; simp
  have e2 : w2.heap.size = w.heap.size + 2 := by rw [hw2]; simp [e1]
  have e3 : w3.heap.size = w.heap.size + 3 := by rw [hw3]; simp [e2]
  have B1 : Below w.heap.size w w1 := by rw [hw1]; exact below_alloc _ _
  have B2 : Below w1.heap.size w1 w2 := by rw [hw2]; exact below_alloc _ _
  have B3 : Below w2.heap.size w2 w3 := by rw [hw3]; exact below_alloc _ _
  have R1 : Row w1 w.heap.size 68 [.int .i64 k, .int .i64 sl, .int .i64 i, .int .i64 x, .int .i64 y, .int .i64 zr.1, .int .i64 zr.2.1, .slice ao1 zr.2.2.1.length co1, .slice ap1 zr.2.2.2.length cp1, .slice as1 zs.length cs1, .bool zt] := by rw [hw1]; exact Row.new _ _ _
  have R2 : Row w2 (w.heap.size + 1) 31 [.int .i64 r.1, .int .i64 r.2.1, .slice ao2 r.2.2.1.length co2, .slice ap2 r.2.2.2.length cp2] := by rw [hw2, ← e1]; exact Row.new _ _ _
  have R3 : Row w3 (w.heap.size + 2) 48 z23 := by rw [hw3, ← e2]; exact Row.new _ _ _
  have R1 := (R1.below B2).below B3
  have R2 := R2.below B3
  have B : Below w.heap.size w w3 := below_and (below_and B1 (Nat.le_refl _) B2) (Nat.le_refl _) B3
  have hw : w3 = ((w.alloc (.cells #[.int .i64 k, .int .i64 sl, .int .i64 i, .int .i64 x, .int .i64 y, .int .i64 zr.1, .int .i64 zr.2.1, .slice ao1 zr.2.2.1.length co1, .slice ap1 zr.2.2.2.length cp1, .slice as1 zs.length cs1, .bool zt] 68)).alloc (.cells #[.int .i64 r.1, .int .i64 r.2.1, .slice ao2 r.2.2.1.length co2, .slice ap2 r.2.2.2.length cp2] 31)).alloc (.cells z23.toArray 48) := by rw [hw3, hw2, hw1]
  clear hw1 hw2 hw3 e1 e2 B1 B2 B3
  simp only [z23] at hw
  go_enter Tryd.func29, Tryd.ntmps29
  go_upto_region 1 with fail
  rw [← hw]
  clear hw
  have k0 := R1.cell (j := 0) rfl; have k1 := R1.cell (j := 1) rfl; have k2 := R1.cell (j := 2) rfl; have k9 := R1.cell (j := 9) rfl
  have hrow0 := Row.new w3 48 z23
  rw [e3] at hrow0
  have hon : ∀ v ∈ mc (ev0 (k, x, y, sl, i) zr zs r g) (svE (.slice ao1 zr.2.2.1.length co1) (.slice ap1 zr.2.2.2.length cp1) (.slice as1 zs.length cs1) (.slice ao2 r.2.2.1.length co2) (.slice ap2 r.2.2.2.length cp2) (.slice as2 g.length cs2)), v.oneCell' = true := (ev0_sok (k, x, y, sl, i) t1 t2 t3 t4 t5 t6).one
  go_upto_region 2 with (first
    | (refine wl_part rfl _ _ rfl w.heap.size 3 rfl _ _ R1 [.int .i64 x, .int .i64 y] rfl _ Tryd.underlying28 rfl (by kernel_rfl) ?_)
    | (refine wl_part rfl _ _ rfl w.heap.size 5 rfl _ _ R1 [.int .i64 zr.1, .int .i64 zr.2.1, .slice ao1 zr.2.2.1.length co1, .slice ap1 zr.2.2.2.length cp1] rfl _ Tryd.underlying31 rfl (by kernel_rfl) ?_)
    | (refine wl_part rfl _ _ rfl (w.heap.size + 1) 0 rfl _ _ R2 [.int .i64 r.1, .int .i64 r.2.1, .slice ao2 r.2.2.1.length co2, .slice ap2 r.2.2.2.length cp2] rfl _ Tryd.underlying31 rfl (by kernel_rfl) ?_)
    | (refine wl_store rfl _ _ _ rfl (w.heap.size + 3) (mc (ev0 (k, x, y, sl, i) zr zs r g) (svE (.slice ao1 zr.2.2.1.length co1) (.slice ap1 zr.2.2.2.length cp1) (.slice as1 zs.length cs1) (.slice ao2 r.2.2.1.length co2) (.slice ap2 r.2.2.2.length cp2) (.slice as2 g.length cs2))) rfl rfl _ _ hrow0 rfl (by kernel_rfl) hon ?_; intro w4 R4 g4))
  have b4 : Below w3.heap.size w3 w4 := (below_alloc w3 (.cells (z23 : List Value).toArray 48)).trans (grown_below g4 (by simp) (fun k hk => by have := Option.some.inj hk; omega))
  have R4 := R4.out
  have R1 := R1.below b4
  have R2 := R2.below b4
  have R3 := R3.below b4
  have B4 := below_and B (Nat.le_refl _) b4
  have BB := below_and hb0 (Nat.le_refl _) B4
  have hlt4 : w.heap.size + 3 < w4.heap.size := R4.lt
  clear hrow0 g4 b4 k0 k1 k2 k9 hon e3
  try go_simp
  have hbz : Byt (body zr) := body_byt t1.1.1 t2.1.1 hz
  have hbr : Byt (body r) := body_byt t4.1.1 t5.1.1 hr
  have SK := (show Hid (∀ u, Below w4.heap.size w4 u → u.cell? ⟨w.heap.size, 5, none⟩ = some (.int .i64 zr.1) ∧ u.cell? ⟨w.heap.size, 6, none⟩ = some (.int .i64 zr.2.1) ∧ u.cell? ⟨w.heap.size, 7, none⟩ = some (.slice ao1 zr.2.2.1.length co1) ∧ u.cell? ⟨w.heap.size, 8, none⟩ = some (.slice ap1 zr.2.2.2.length cp1) ∧
      u.cell? ⟨w.heap.size + 1, 0, none⟩ = some (.int .i64 r.1) ∧ u.cell? ⟨w.heap.size + 1, 1, none⟩ = some (.int .i64 r.2.1) ∧ u.cell? ⟨w.heap.size + 1, 2, none⟩ = some (.slice ao2 r.2.2.1.length co2) ∧ u.cell? ⟨w.heap.size + 1, 3, none⟩ = some (.slice ap2 r.2.2.2.length cp2)) from
    fun u hu => ⟨(R1.below hu).cell (j := 5) rfl, (R1.below hu).cell (j := 6) rfl, (R1.below hu).cell (j := 7) rfl, (R1.below hu).cell (j := 8) rfl, (R2.below hu).cell (j := 0) rfl, (R2.below hu).cell (j := 1) rfl, (R2.below hu).cell (j := 2) rfl, (R2.below hu).cell (j := 3) rfl⟩)
  obtain ⟨q0, q1, q2, q3, q4, q5, q6, q7⟩ := SK.out w4 (Below.refl _ _)
  have hd4 : Below w4.heap.size w4 w4.drew := ⟨rfl, rfl, rfl, Nat.le_refl _, fun _ _ => rfl⟩
  have HB1 := (show Hid (∀ _ : Unit, _) from fun _ => refBody_any w4.drew [.int .i64 zr.1, .int .i64 zr.2.1, .slice ao1 zr.2.2.1.length co1, .slice ap1 zr.2.2.2.length cp1] zr ⟨_, _, rfl, t1.mv (Mv.below (below_and BB (Nat.le_refl _) hd4)), t2.mv (Mv.below (below_and BB (Nat.le_refl _) hd4))⟩ (Nat.le_trans hz (by decide)))
  go_cut [30] from 23 (fun s30 wx => s30 = .bool (decide (0 < cmpL (body zr) (body r))) ∧ Below w4.heap.size w4 wx)
  case first =>
    go_region_law (first
      | (go_simp; go_at_call 26; refine (refBody_any w5 [.int .i64 r.1, .int .i64 r.2.1, .slice ao2 r.2.2.1.length co2, .slice ap2 r.2.2.2.length cp2] r ⟨_, _, rfl, t4.mv (Mv.below (below_and BB (Nat.le_refl _) b5)), t5.mv (Mv.below (below_and BB (Nat.le_refl _) b5))⟩ (Nat.le_trans hr (by decide))).mono ?_; rintro e w6 ⟨v6, rfl, o6, f6, b6'⟩; have b6 : Below w4.heap.size w4 w6 := below_and b5 (Nat.le_refl _) b6'; have s5' := run_str ((o5.rd hbz).below b6'); have s6 := run_str (o6.rd hbr); obtain ⟨q0, q1, q2, q3, q4, q5, q6, q7⟩ := SK.out w6 b6)
      | (go_simp; go_at_call 26; refine (HB1.out ()).mono ?_; rintro e w5 ⟨v5, rfl, o5, f5, b5'⟩; have b5 : Below w4.heap.size w4 w5 := hd4.trans b5'; have s5 := run_str (o5.rd hbz); obtain ⟨q0, q1, q2, q3, q4, q5, q6, q7⟩ := SK.out w5 b5))
    all_goals (
      rw [cmp_str hbz hbr]
      go_wp2_with fail
      go_meet
      case rel => exact ⟨rfl, b6⟩)
  case rest =>
  obtain ⟨rfl, hc⟩ := hcut
  clear q0 q1 q2 q3 q4 q5 q6 q7 HB1 hd4
  have R1 := R1.below hc
  have R2 := R2.below hc
  have R3 := R3.below hc
  have R4 := R4.below hc
  have Bc := below_and B4 (Nat.le_refl _) hc
  have hltc : w.heap.size + 3 < wc.heap.size := R4.lt
  clear SK
  by_cases hgt : 0 < cmpL (body zr) (body r)
  · rw [decide_eq_true hgt]
    have he : evL (k, x, y, sl, i) zr zs r g = ev0 (k, x, y, sl, i) r g zr zs := by unfold evL; rw [if_pos hgt]
    have hsv := ev0_sok (k, x, y, sl, i) t4 t5 t6 t1 t2 t3
    have he := (show Hid (_ = _) from he)
    clear hgt
    go_upto_region 4 with (first
      | (refine wl_part rfl _ _ rfl (w.heap.size + 1) 0 rfl _ _ R2 [.int .i64 r.1, .int .i64 r.2.1, .slice ao2 r.2.2.1.length co2, .slice ap2 r.2.2.2.length cp2] rfl _ Tryd.underlying31 rfl (by kernel_rfl) ?_)
      | (refine wl_storeP rfl _ _ _ rfl (w.heap.size + 3) 8 [.int .i64 r.1, .int .i64 r.2.1, .slice ao2 r.2.2.1.length co2, .slice ap2 r.2.2.2.length cp2] rfl rfl _ _ R4 (Nat.le_of_ble_eq_true rfl) (by kernel_rfl) (one4 rfl rfl) ?_; intro w5 R5 g5))
    have R1 := R1.grown g5 (fun e => by have := Option.some.inj e; omega)
    have R2 := R2.grown g5 (fun e => by have := Option.some.inj e; omega)
    have R3 := R3.grown g5 (fun e => by have := Option.some.inj e; omega)
    go_upto_region 5 with (refine wl_set rfl _ _ _ rfl (w.heap.size + 3) 17 (.slice as2 g.length cs2) rfl rfl _ _ R5.out (Nat.le_of_ble_eq_true rfl) (by kernel_rfl) rfl ?_; intro w6 R6 g6)
    have R1 := R1.grown g6 (fun e => by have := Option.some.inj e; omega)
    have R2 := R2.grown g6 (fun e => by have := Option.some.inj e; omega)
    have R3 := R3.grown g6 (fun e => by have := Option.some.inj e; omega)
    go_upto_region 6 with (first
      | (refine wl_part rfl _ _ rfl w.heap.size 5 rfl _ _ R1 [.int .i64 zr.1, .int .i64 zr.2.1, .slice ao1 zr.2.2.1.length co1, .slice ap1 zr.2.2.2.length cp1] rfl _ Tryd.underlying31 rfl (by kernel_rfl) ?_)
      | (refine wl_storeP rfl _ _ _ rfl (w.heap.size + 3) 12 [.int .i64 zr.1, .int .i64 zr.2.1, .slice ao1 zr.2.2.1.length co1, .slice ap1 zr.2.2.2.length cp1] rfl rfl _ _ R6.out (Nat.le_of_ble_eq_true rfl) (by kernel_rfl) (one4 rfl rfl) ?_; intro w7 R7 g7))
    have R1 := R1.grown g7 (fun e => by have := Option.some.inj e; omega)
    have R2 := R2.grown g7 (fun e => by have := Option.some.inj e; omega)
    have R3 := R3.grown g7 (fun e => by have := Option.some.inj e; omega)
    have k9 := R1.cell (j := 9) rfl
    go_upto_region 7 with (refine wl_set rfl _ _ _ rfl (w.heap.size + 3) 16 (.slice as1 zs.length cs1) rfl rfl _ _ R7.out (Nat.le_of_ble_eq_true rfl) (by kernel_rfl) rfl ?_; intro w8 R8 g8)
    have R1 := R1.grown g8 (fun e => by have := Option.some.inj e; omega)
    have R2 := R2.grown g8 (fun e => by have := Option.some.inj e; omega)
    have R3 := R3.grown g8 (fun e => by have := Option.some.inj e; omega)
    have R8 : Row w8 (w.heap.size + 3) 48 (mc (ev0 (k, x, y, sl, i) r g zr zs) (svE (.slice ao2 r.2.2.1.length co2) (.slice ap2 r.2.2.2.length cp2) (.slice as2 g.length cs2) (.slice ao1 zr.2.2.1.length co1) (.slice ap1 zr.2.2.2.length cp1) (.slice as1 zs.length cs1))) := R8.out
    have gg := grown_trans (grown_trans (grown_trans g5 g6 (.inl rfl)) g7 (.inl rfl)) g8 (.inl rfl)
    have B8 := Bc.trans (grown_below gg Bc.size (fun j hj => by have := Option.some.inj hj; omega))
    clear k9 R5 R6 R7 g5 g6 g7 g8
    go_wp2_with (first
      | (refine wl_load rfl _ _ rfl (w.heap.size + 3) rfl _ _ R8 _ Tryd.underlying48 rfl (by kernel_rfl) ?_)
      | (refine wl_store rfl _ _ _ rfl (w.heap.size + 2) (mc (ev0 (k, x, y, sl, i) r g zr zs) (svE (.slice ao2 r.2.2.1.length co2) (.slice ap2 r.2.2.2.length cp2) (.slice as2 g.length cs2) (.slice ao1 zr.2.2.1.length co1) (.slice ap1 zr.2.2.2.length cp1) (.slice as1 zs.length cs1))) rfl rfl _ _ R3 rfl (by kernel_rfl) hsv.one ?_; intro w9 R9 g9))
    refine bodyPost_ret (v := .agg (mc (ev0 (k, x, y, sl, i) r g zr zs) (svE (.slice ao2 r.2.2.1.length co2) (.slice ap2 r.2.2.2.length cp2) (.slice as2 g.length cs2) (.slice ao1 zr.2.2.1.length co1) (.slice ap1 zr.2.2.2.length cp1) (.slice as1 zs.length cs1))).toArray) (results_cell_row rfl _ _ (w.heap.size + 2) _ _ (0, 0) _ (by rfl) R9.out Tryd.underlying48 rfl (by kernel_rfl)) rfl ?_
    rw [he.out]
    exact ⟨_, rfl, hsv, B8.trans (grown_below g9 B8.size (fun j hj => by have := Option.some.inj hj; omega))⟩
  · rw [decide_eq_false hgt]
    have he : evL (k, x, y, sl, i) zr zs r g = ev0 (k, x, y, sl, i) zr zs r g := by unfold evL; rw [if_neg hgt]
    have hsv := ev0_sok (k, x, y, sl, i) t1 t2 t3 t4 t5 t6
    have he := (show Hid (_ = _) from he)
    clear hgt
    go_wp2_with (first
      | (refine wl_load rfl _ _ rfl (w.heap.size + 3) rfl _ _ R4 _ Tryd.underlying48 rfl (by kernel_rfl) ?_)
      | (refine wl_store rfl _ _ _ rfl (w.heap.size + 2) (mc (ev0 (k, x, y, sl, i) zr zs r g) (svE (.slice ao1 zr.2.2.1.length co1) (.slice ap1 zr.2.2.2.length cp1) (.slice as1 zs.length cs1) (.slice ao2 r.2.2.1.length co2) (.slice ap2 r.2.2.2.length cp2) (.slice as2 g.length cs2))) rfl rfl _ _ R3 rfl (by kernel_rfl) hsv.one ?_; intro w6 R6 g6))
    refine bodyPost_ret (v := .agg (mc (ev0 (k, x, y, sl, i) zr zs r g) (svE (.slice ao1 zr.2.2.1.length co1) (.slice ap1 zr.2.2.2.length cp1) (.slice as1 zs.length cs1) (.slice ao2 r.2.2.1.length co2) (.slice ap2 r.2.2.2.length cp2) (.slice as2 g.length cs2))).toArray) (results_cell_row rfl _ _ (w.heap.size + 2) _ _ (0, 0) _ (by rfl) R6.out Tryd.underlying48 rfl (by kernel_rfl)) rfl ?_
    rw [he.out]
    exact ⟨_, rfl, hsv, Bc.trans (grown_below g6 Bc.size (fun j hj => by have := Option.some.inj hj; omega))⟩
end Go.Proofs.YtajmgpgjkalfkaaDoor
end
