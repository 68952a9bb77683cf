/- Lists of records that are copied one by one: where the loop stands. -/
import Derived.Test.YtgbfmccecnfooaaDoorCBAM
import Derived.Test.YtgbfmccecnfooaaDoorCBAF
import Derived.Test.YtgbfmccecnfooaaDoorCBAW
import Derived.Test.YtgbfmccecnfooaaDoorCBAX
import Derived.Test.YtgbfmccecnfooaaDoorCBAZ
set_option linter.unusedSimpArgs false
set_option linter.unusedVariables false
namespace Go.Proofs.YtgbfmccecnfooaaDoor
section
open Go.RowKit Oct Bal
theorem len_rep {G : Nat → Prop} {w : World} {v : Value} {ys : List PRep} (h : RL RRep 8 G w v ys) : (ys.length : Int) ≤ 9223372036854775807 := by
  by_cases h0 : 0 < ys.length
  · obtain ⟨_, _, _, _, h1, h2, _⟩ := h.at h0
    unfold maxLen at h2
    omega
  · omega
set_option maxRecDepth 10000 in
set_option maxHeartbeats 4000000 in
theorem lowC_any (w : World) (v : Value) (ys : List PRep) (hvs : RL RRep 8 Any w v ys) : Calls Tryd.prog 12 #[v] w fun e w' => e = .returned (.int .i64 (lowR ys)) ∧ Below w.heap.size w w' := by
  obtain ⟨aa, ca, rfl, _⟩ := hvs.form
  have hlv := len_rep hvs
  go_enter Tryd.func12, Tryd.ntmps12
  go_wp2_with fail
  go_loopw [3, 8] (fun m j wr => ∃ n : Nat, n ≤ ys.length ∧ j = .int .i64 n ∧ m = .int .i64 ((ys.take n).foldl lowS 0) ∧ Below w.heap.size w wr) (fun _ j _ => ys.length - (intOf j).toNat)
  case atStart => exact ⟨0, by omega, rfl, rfl, Below.refl _ _⟩
  case round =>
    obtain ⟨n, hn, rfl, rfl, hB⟩ := hrel
    by_cases hnl : n < ys.length
    case neg =>
      have hy : ys.take n = ys := List.take_of_length_le (by omega)
      have HY := (show Hid (ys.take n = ys) from hy)
      clear hy
      go_wp2_with fail
      go_ret
      exact ⟨by rw [HY.out]; rfl, hB⟩
    obtain ⟨A, hA⟩ : ∃ A, ys[n]? = some A := ⟨_, List.getElem?_eq_getElem hnl⟩
    obtain ⟨bv, off, cap, hve, _, _, _, hbv, hat⟩ := hvs.at (by omega)
    obtain ⟨rvv, _, hrng, rd, rs, rp, rg, rfl, t1, t2, t3, t4⟩ := hat n _ hA
    injection hve with hv1 hv2 hv3
    subst hv1 hv3
    clear hv2 hat
    have hrng := rangeAt_block hrng (hB.block bv hbv)
    have hrow0 := Row.new wr 30 [.int .i64 0, .int .i64 0, .int .i64 0, .int .i64 0, .slice none 0 0, .slice none 0 0, .slice none 0 0, .slice none 0 0]
    have hon := one_RRep (G := Any) (w := w) (x := A) ⟨rd, rs, rp, rg, rfl, t1, t2, t3, t4⟩
    go_upto_region 5 with (first
      | (refine wpList_load_mid rfl _ _ rfl bv (off + n * 8) rfl [.int .i64 A.1.1, .int .i64 A.1.2, .int .i64 A.2.1, .int .i64 A.2.2.1, rd, rs, rp, rg] _ hrng Tryd.underlying30 rfl (by kernel_rfl) ?_)
      | (refine wl_store rfl _ _ _ rfl wr.heap.size [.int .i64 A.1.1, .int .i64 A.1.2, .int .i64 A.2.1, .int .i64 A.2.2.1, rd, rs, rp, rg] rfl rfl _ _ hrow0 rfl (by kernel_rfl) hon ?_; intro w8 rR g8))
    have b8 : Below wr.heap.size wr w8 := (below_alloc wr (.cells ([.int .i64 0, .int .i64 0, .int .i64 0, .int .i64 0, .slice none 0 0, .slice none 0 0, .slice none 0 0, .slice none 0 0] : List Value).toArray 30)).trans (grown_below g8 (by simp) (fun k hk => by cases hk; exact Nat.le_refl _))
    have rR := rR.out
    have hB8 := below_and hB (Nat.le_refl _) b8
    obtain ⟨cR, hcR⟩ : ∃ c, c = wr.heap.size := ⟨_, rfl⟩
    rw [← hcR] at rR ⊢
    clear hrow0 g8 hrng hon
    clear hcR b8
    have k3 := rR.cell (j := 3) rfl
    have hst := foldl_take (f := lowS) (b := 0) hA
    have HST := (show Hid (_ = _) from hst)
    clear hst hA hvs
    generalize (ys.take n).foldl lowS 0 = m at *
    go_wp2_with fail
    go_roundw
    case rel => exact ⟨n + 1, by omega, by go_num, by rw [HST.out]; rfl, hB8⟩
    case measure => simp [intOf]; omega
set_option maxRecDepth 10000 in
set_option maxHeartbeats 4000000 in
theorem highC_any (w : World) (v : Value) (ys : List PRep) (hvs : RL RRep 8 Any w v ys) : Calls Tryd.prog 21 #[v] w fun e w' => e = .returned (.int .i64 (higR ys)) ∧ Below w.heap.size w w' := by
  have hLo := lowC_any w v ys hvs
  obtain ⟨aa, ca, rfl, _⟩ := hvs.form
  have hlv := len_rep hvs
  go_enter Tryd.func21, Tryd.ntmps21
  go_upto_region 2 with (go_at_call 12; refine hLo.mono ?_; rintro e w1 ⟨rfl, b1⟩)
  clear hLo
  generalize hLR : lowR ys = LR at *
  go_wp2_with fail
  go_loopw [3, 12] (fun m j wr => ∃ n : Nat, n ≤ ys.length ∧ j = .int .i64 n ∧ m = .int .i64 ((ys.take n).foldl (fun m r => r.2.2.2.2.2.1.foldl higS m) LR) ∧ Below w.heap.size w wr) (fun _ j _ => ys.length - (intOf j).toNat)
  case atStart => exact ⟨0, by omega, rfl, rfl, b1⟩
  case round =>
    obtain ⟨n, hn, rfl, rfl, hB⟩ := hrel
    by_cases hnl : n < ys.length
    case neg =>
      have hy : higR ys = (ys.take n).foldl (fun m r => r.2.2.2.2.2.1.foldl higS m) LR := by
        rw [List.take_of_length_le (by omega)]
        unfold higR
        rw [hLR]
      have HY := (show Hid (_ = _) from hy)
      clear hy
      go_wp2_with fail
      go_ret
      exact ⟨by rw [HY.out]; rfl, hB⟩
    obtain ⟨A, hA⟩ : ∃ A, ys[n]? = some A := ⟨_, List.getElem?_eq_getElem hnl⟩
    obtain ⟨bv, off, cap, hve, _, _, _, hbv, hat⟩ := hvs.at (by omega)
    obtain ⟨rvv, _, hrng, rd, rs, rp, rg, rfl, t1, t2, t3, t4⟩ := hat n _ hA
    injection hve with hv1 hv2 hv3
    subst hv1 hv3
    clear hv2 hat
    have hrng := rangeAt_block hrng (hB.block bv hbv)
    have hrow0 := Row.new wr 30 [.int .i64 0, .int .i64 0, .int .i64 0, .int .i64 0, .slice none 0 0, .slice none 0 0, .slice none 0 0, .slice none 0 0]
    have hon := one_RRep (G := Any) (w := w) (x := A) ⟨rd, rs, rp, rg, rfl, t1, t2, t3, t4⟩
    go_upto_region 5 with (first
      | (refine wpList_load_mid rfl _ _ rfl bv (off + n * 8) rfl [.int .i64 A.1.1, .int .i64 A.1.2, .int .i64 A.2.1, .int .i64 A.2.2.1, rd, rs, rp, rg] _ hrng Tryd.underlying30 rfl (by kernel_rfl) ?_)
      | (refine wl_store rfl _ _ _ rfl wr.heap.size [.int .i64 A.1.1, .int .i64 A.1.2, .int .i64 A.2.1, .int .i64 A.2.2.1, rd, rs, rp, rg] rfl rfl _ _ hrow0 rfl (by kernel_rfl) hon ?_; intro w8 rR g8))
    have b8 : Below wr.heap.size wr w8 := (below_alloc wr (.cells ([.int .i64 0, .int .i64 0, .int .i64 0, .int .i64 0, .slice none 0 0, .slice none 0 0, .slice none 0 0, .slice none 0 0] : List Value).toArray 30)).trans (grown_below g8 (by simp) (fun k hk => by cases hk; exact Nat.le_refl _))
    have rR := rR.out
    have hB8 := below_and hB (Nat.le_refl _) b8
    obtain ⟨cR, hcR⟩ : ∃ c, c = wr.heap.size := ⟨_, rfl⟩
    rw [← hcR] at rR ⊢
    clear hrow0 g8 hrng hon
    clear hcR b8
    have hst := foldl_take (f := fun (m : Int) (r : PRep) => r.2.2.2.2.2.1.foldl higS m) (b := LR) hA
    have HST := (show Hid (_ = _) from hst)
    clear hst hA
    generalize (ys.take n).foldl (fun m r => r.2.2.2.2.2.1.foldl higS m) LR = m0 at *
    obtain ⟨pa, pcap, rfl, _⟩ := t3.form
    have k6 := rR.cell (j := 6) rfl
    have hlp : (A.2.2.2.2.2.1.length : Int) ≤ 9223372036854775807 := by
      by_cases h0 : 0 < A.2.2.2.2.2.1.length
      · obtain ⟨_, _, _, _, h1, h2, _⟩ := t3.at h0
        unfold maxLen at h2
        omega
      · omega
    have HT := (show Hid (RL RPrep 8 Any w (.slice pa A.2.2.2.2.2.1.length pcap) A.2.2.2.2.2.1) from t3)
    clear t1 t2 t3 t4 rR hB hvs
    generalize hPS : A.2.2.2.2.2.1 = PS at *
    go_wp2_with fail
    go_loopw [3, 19] (fun m j wr => ∃ i : Nat, i ≤ PS.length ∧ j = .int .i64 i ∧ m = .int .i64 ((PS.take i).foldl higS m0) ∧ Below w.heap.size w wr) (fun _ j _ => PS.length - (intOf j).toNat)
    case atStart => exact ⟨0, by omega, rfl, rfl, hB8⟩
    case round =>
      obtain ⟨i, hi, rfl, rfl, hB⟩ := hrel
      by_cases hil : i < PS.length
      case neg =>
        have hy : PS.take i = PS := List.take_of_length_le (by omega)
        have HY := (show Hid (PS.take i = PS) from hy)
        clear hy
        go_wp2_with fail
        go_roundw
        case rel => exact ⟨n + 1, by omega, by go_num, by rw [HST.out, HY.out] <;> first | rfl | (show _ = Value.int .i64 (A.2.2.2.2.2.1.foldl higS m0); rw [hPS]), hB⟩
        case measure => simp [intOf]; omega
      obtain ⟨P, hP⟩ : ∃ P, PS[i]? = some P := ⟨_, List.getElem?_eq_getElem hil⟩
      obtain ⟨bw, offp, capp, hve, _, _, _, hbw, hat⟩ := (HT.out).at (by omega)
      obtain ⟨rww, _, hrnp, po, ps, pc, rfl, u1, u2, u3⟩ := hat i _ hP
      injection hve with hv1 hv2 hv3
      subst hv1 hv3
      clear hv2 hat
      have hrnp := rangeAt_block hrnp (hB.block bw hbw)
      have hrow0 := Row.new wr 38 [.int .i64 0, .int .i64 0, .int .i64 0, .int .i64 0, .int .i64 0, .slice none 0 0, .slice none 0 0, .slice none 0 0]
      have hon := one_RPrep (G := Any) (w := w) (x := P) ⟨po, ps, pc, rfl, u1, u2, u3⟩
      go_upto_region 8 with (first
        | (refine wpList_load_mid rfl _ _ rfl bw (offp + i * 8) rfl [.int .i64 P.1, .int .i64 P.2.1.1, .int .i64 P.2.1.2, .int .i64 P.2.2.1.1, .int .i64 P.2.2.1.2.1, po, ps, pc] _ hrnp Tryd.underlying38 rfl (by kernel_rfl) ?_)
        | (refine wl_store rfl _ _ _ rfl wr.heap.size [.int .i64 P.1, .int .i64 P.2.1.1, .int .i64 P.2.1.2, .int .i64 P.2.2.1.1, .int .i64 P.2.2.1.2.1, po, ps, pc] rfl rfl _ _ hrow0 rfl (by kernel_rfl) hon ?_; intro w9 rP g9))
      have b9 : Below wr.heap.size wr w9 := (below_alloc wr (.cells ([.int .i64 0, .int .i64 0, .int .i64 0, .int .i64 0, .int .i64 0, .slice none 0 0, .slice none 0 0, .slice none 0 0] : List Value).toArray 38)).trans (grown_below g9 (by simp) (fun k hk => by cases hk; exact Nat.le_refl _))
      have rP := rP.out
      have hB9 := below_and hB (Nat.le_refl _) b9
      obtain ⟨cP, hcP⟩ : ∃ c, c = wr.heap.size := ⟨_, rfl⟩
      rw [← hcP] at rP ⊢
      clear hrow0 g9 hrnp hon
      clear hcP b9
      have k0 := rP.cell (j := 0) rfl
      have hst := foldl_take (f := higS) (b := m0) hP
      have HST2 := (show Hid (_ = _) from hst)
      clear hst hP
      generalize (PS.take i).foldl higS m0 = m1 at *
      go_wp2_with fail
      go_roundw
      case rel => exact ⟨i + 1, by omega, by go_num, by rw [HST2.out]; rfl, hB9⟩
      case measure => simp [intOf]; omega
end
section
open Go.RowKit Oct
theorem flat_putS {k n q : Nat} {cur r b0 : List Value} {A B : List (List Value)} (hA : ∀ r ∈ A, r.length = k) (hB : ∀ r ∈ b0 :: B, r.length = k) (hr : r.length = k) (hq : A.length = q) (hn : (A ++ b0 :: B).length = n) (hc : n * k ≤ cur.length)
    (ht : cur.take (n * k) = (A ++ b0 :: B).flatten) : (splice cur (q * k) r).take (n * k) = (A ++ r :: B).flatten := by
  have hAl : A.flatten.length = q * k := by rw [flat_len hA, hq]
  have hB' : ∀ r ∈ B, r.length = k := fun x hx => hB x (by simp [hx])
  have hb0 := hB b0 (by simp)
  have hBl : B.flatten.length = B.length * k := flat_len hB'
  have hnn : n = q + 1 + B.length := by rw [← hn, List.length_append, List.length_cons, hq]; omega
  have hmul : n * k = q * k + (k + B.length * k) := by rw [hnn, Nat.add_mul, Nat.add_mul]; omega
  have e1 : cur.take (q * k) = A.flatten := by
    have := congrArg (List.take (q * k)) ht
    rw [List.take_take, Nat.min_eq_left (by omega), List.flatten_append, ← hAl, List.take_left] at this
    rw [← hAl]; exact this
  have hAb : (A.flatten ++ b0).length = q * k + k := by rw [List.length_append, hAl, hb0]
  have e3 : (A.flatten ++ b0 ++ B.flatten).drop (q * k + k) = B.flatten := by rw [← hAb]; exact List.drop_left
  have e2 : (cur.drop (q * k + k)).take (B.length * k) = B.flatten := by
    have := congrArg (List.drop (q * k + k)) ht
    rw [List.drop_take, List.flatten_append, List.flatten_cons, ← List.append_assoc, e3] at this
    rw [← this]
    congr 1
    omega
  unfold splice
  rw [e1, hr, List.flatten_append, List.flatten_cons, ← e2, hmul, ← hAl, List.take_length_add_append, ← hr, List.take_length_add_append, hAl]
theorem Row.uniqS {w : World} {b : Nat} {t t' : TypeId} {xs ys : List Value} (h : Row w b t xs) (h' : Row w b t' ys) : xs = ys := by
  unfold Row at h h'
  rw [h] at h'
  simp at h'
  exact h'.1
section
variable {α : Type} {R : (Nat → Prop) → World → List Value → α → Prop} {T : TypeId} {kk : Nat}
/-- A row of records of which the first q are copied. -/
structure MixR (R : (Nat → Prop) → World → List Value → α → Prop) (T : TypeId) (kk : Nat) (B g n cap q : Nat) (w0 w : World) (rows0 : List (List Value)) (ys : List α) : Prop where
  bel : Below B w0 w
  ex : ∃ (cur : List Value) (A : List (List Value)), Row w g T cur ∧ cur.length = cap * kk ∧ A.length = q ∧ (∀ r ∈ A, r.length = kk) ∧ cur.take (n * kk) = (A ++ rows0.drop q).flatten ∧ All2 (R (fun b => B ≤ b ∧ b ≠ g) w) A (ys.take q)
theorem MixR.row {B g n cap q : Nat} {w0 w : World} {rows0 : List (List Value)} {ys : List α} (h : MixR R T kk B g n cap q w0 w rows0 ys) (h0 : ∀ r ∈ rows0, r.length = kk) {r : List Value} (hr : rows0[q]? = some r) (hq : q < n) : w.rangeAt g (q * kk) r := by
  obtain ⟨cur, A, h1, h2, h3, h4, h5, h6⟩ := h.ex
  intro j v hj
  refine h1.cell ?_
  have hrl := h0 r (List.mem_of_getElem? hr)
  have hjl : j < kk := by rw [← hrl]; exact (List.getElem?_eq_some_iff.1 hj).1
  have e : (A ++ rows0.drop q)[q]? = some r := by rw [List.getElem?_append_right (by omega), h3, Nat.sub_self, List.getElem?_drop, Nat.add_zero]; exact hr
  have hl : ∀ x ∈ A ++ rows0.drop q, x.length = kk := fun x hx => by
    rcases List.mem_append.1 hx with hx | hx
    · exact h4 x hx
    · exact h0 x (List.mem_of_mem_drop hx)
  have := flat_at hl e hj
  have hmul : (q + 1) * kk ≤ n * kk := Nat.mul_le_mul_right _ hq
  rw [Nat.add_mul] at hmul
  rw [← h5, List.getElem?_take, if_pos (by omega)] at this
  exact this
theorem MixR.step (hR : Mov R) {B g n cap q : Nat} {w0 w w1 w2 : World} {rows0 : List (List Value)} {ys : List α} (h : MixR R T kk B g n cap q w0 w rows0 ys) (h0 : ∀ r ∈ rows0, r.length = kk) (hn : rows0.length = n) (hc : n ≤ cap) {x : α} (hx : ys[q]? = some x) (hq : q < n)
    (hb1 : Below w.heap.size w w1) (hBg : B ≤ g) {r : List Value} (hlr : r.length = kk) (hr : R (From w.heap.size) w1 r x) (hB : B ≤ w.heap.size) (hg2 : w1.grownBy w2 (some g)) {cur0 : List Value} (hc0 : Row w1 g T cur0) (hr2 : Row w2 g T (splice cur0 (q * kk) r)) : MixR R T kk B g n cap (q + 1) w0 w2 rows0 ys := by
  obtain ⟨cur, A, h1, h2, h3, h4, h5, h6⟩ := h.ex
  have hgl := h1.lt
  obtain rfl : cur = cur0 := (h1.below hb1).uniqS hc0
  have hrl : r.length = kk := hlr
  have hmul : (q + 1) * kk ≤ n * kk := Nat.mul_le_mul_right _ hq
  have hmul2 : n * kk ≤ cap * kk := Nat.mul_le_mul_right _ hc
  rw [Nat.add_mul] at hmul
  refine ⟨(h.bel.trans (hb1.mono hB)).trans (grown_below hg2 (Nat.le_trans hB hb1.size) (fun k hk => by cases hk; exact hBg)), splice cur (q * kk) r, A ++ [r], hr2, ?_, ?_, ?_, ?_, ?_⟩
  · rw [length_splice _ _ _ (by omega), h2]
  · simp [h3]
  · intro y hy
    rcases List.mem_append.1 hy with hy | hy
    · exact h4 y hy
    · simp at hy; subst hy; exact hrl
  · obtain ⟨b0, hb0⟩ : ∃ b0, rows0[q]? = some b0 := ⟨_, List.getElem?_eq_getElem (by omega)⟩
    have hd : rows0.drop q = b0 :: rows0.drop (q + 1) := by
      rw [List.drop_eq_getElem_cons (by omega : q < rows0.length)]
      rw [List.getElem?_eq_getElem (by omega)] at hb0
      injection hb0 with hb0
      rw [hb0]
    rw [hd] at h5
    rw [List.append_assoc, List.singleton_append]
    refine flat_putS h4 (fun y hy => ?_) hrl h3 ?_ (by omega) h5
    · rw [← hd] at hy; exact h0 y (List.mem_of_mem_drop hy)
    · rw [← hd, List.length_append, List.length_drop]; omega
  · have e : ys.take (q + 1) = ys.take q ++ [x] := by
      rw [List.take_add_one, hx]; rfl
    rw [e]
    refine All2.app (h6.mono fun y a hy => hR _ _ _ _ _ _ hy (Nat.le_trans hb1.size hg2.size) fun k hk hlt => ⟨?_, hk⟩) ⟨hR _ _ _ _ _ _ hr hg2.size fun k hk hlt => ⟨hg2.block k hlt (fun e => ?_), Nat.le_trans hB hk, fun e => ?_⟩, trivial⟩
    · have hs := hb1.size
      exact (hg2.block k (by omega) (fun e => by injection e with e; exact hk.2 e)).trans (hb1.block k hlt)
    · injection e with e
      unfold From at hk; omega
    · unfold From at hk; omega
theorem MixR.done (hR : Mov R) {B g n cap : Nat} {w0 w : World} {rows0 : List (List Value)} {ys : List α} (h : MixR R T kk B g n cap n w0 w rows0 ys) (hn : rows0.length = n) (hy : ys.length = n) (hc : n ≤ cap) (hm : cap ≤ maxLen) (hB : B ≤ g) : LB R T kk B w (.slice (some ⟨g, 0, none⟩) n cap) ys := by
  obtain ⟨cur, A, h1, h2, h3, h4, h5, h6⟩ := h.ex
  rw [List.drop_of_length_le (by omega), List.append_nil] at h5
  rw [List.take_of_length_le (by omega)] at h6
  refine ⟨A, h4, ⟨flat_len h4, .inr ⟨g, cap, cur.toArray, by rw [h3], Nat.zero_le _, h1, by omega, hm, by simpa using h2, by rw [h3]; simpa using h5⟩⟩, fr_at _ _ _ _ hB, h6.mono fun y a hy => hR _ _ _ _ _ _ hy (Nat.le_refl _) fun k hk _ => ⟨rfl, hk.1, fun e => hk.2 ?_⟩⟩
  simp [Value.ownBlock] at e
  exact e.symm
end
end
end Go.Proofs.YtgbfmccecnfooaaDoor
