/- choose.Pick. Written by mk19k.py. -/
import Derived.Test.YtgbfmccecnfooaaGreatDoorCLAZ
import Derived.Test.YtgbfmccecnfooaaGreatDoorCLAE
import Derived.Test.YtgbfmccecnfooaaGreatDoorCLAN
import Derived.Test.YtgbfmccecnfooaaGreatDoorCLBA
import Derived.Test.YtgbfmccecnfooaaGreatDoorCLAU
import Derived.Laws.BitsAllLaws
import Derived.Test.YtgbfmccecnfooaaGreatDoorCLAX
set_option linter.unusedSimpArgs false
set_option linter.unusedVariables false
namespace Go.Proofs.YtgbfmccecnfooaaGreatDoor
section
open Go.RowKit Oct Bal
theorem len_rep {G : Nat → Prop} {w : World} {v : Value} {ys : List PRep} (h : RL RRep 8 G w v ys) : (ys.length : Int) ≤ 9223372036854775807 := by
  by_cases h0 : 0 < ys.length
  · obtain ⟨_, _, _, _, h1, h2, _⟩ := h.at h0
    unfold maxLen at h2
    omega
  · omega
set_option maxRecDepth 10000 in
set_option maxHeartbeats 4000000 in
theorem lowC_any (w : World) (v : Value) (ys : List PRep) (hvs : RL RRep 8 Any w v ys) : Calls Tryz.prog 52 #[v] w fun e w' => e = .returned (.int .i64 (lowR ys)) ∧ Below w.heap.size w w' := by
  obtain ⟨aa, ca, rfl, _⟩ := hvs.form
  have hlv := len_rep hvs
  go_enter Tryz.func52, Tryz.ntmps52
  go_wp2_with fail
  go_loopw [3, 8] (fun m j wr => ∃ n : Nat, n ≤ ys.length ∧ j = .int .i64 n ∧ m = .int .i64 ((ys.take n).foldl lowS 0) ∧ Below w.heap.size w wr) (fun _ j _ => ys.length - (intOf j).toNat)
  case atStart => exact ⟨0, by omega, rfl, rfl, Below.refl _ _⟩
  case round =>
    obtain ⟨n, hn, rfl, rfl, hB⟩ := hrel
    by_cases hnl : n < ys.length
    case neg =>
      have hy : ys.take n = ys := List.take_of_length_le (by omega)
      have HY := (show Hid (ys.take n = ys) from hy)
      clear hy
      go_wp2_with fail
      go_ret
      exact ⟨by rw [HY.out]; rfl, hB⟩
    obtain ⟨A, hA⟩ : ∃ A, ys[n]? = some A := ⟨_, List.getElem?_eq_getElem hnl⟩
    obtain ⟨bv, off, cap, hve, _, _, _, hbv, hat⟩ := hvs.at (by omega)
    obtain ⟨rvv, _, hrng, rd, rs, rp, rg, rfl, t1, t2, t3, t4⟩ := hat n _ hA
    injection hve with hv1 hv2 hv3
    subst hv1 hv3
    clear hv2 hat
    have hrng := rangeAt_block hrng (hB.block bv hbv)
    have hrow0 := Row.new wr 28 [.int .i64 0, .int .i64 0, .int .i64 0, .int .i64 0, .slice none 0 0, .slice none 0 0, .slice none 0 0, .slice none 0 0]
    have hon := one_RRep (G := Any) (w := w) (x := A) ⟨rd, rs, rp, rg, rfl, t1, t2, t3, t4⟩
    go_upto_region 5 with (first
      | (refine wpList_load_mid rfl _ _ rfl bv (off + n * 8) rfl [.int .i64 A.1.1, .int .i64 A.1.2, .int .i64 A.2.1, .int .i64 A.2.2.1, rd, rs, rp, rg] _ hrng Tryz.underlying28 rfl (by kernel_rfl) ?_)
      | (refine wl_store rfl _ _ _ rfl wr.heap.size [.int .i64 A.1.1, .int .i64 A.1.2, .int .i64 A.2.1, .int .i64 A.2.2.1, rd, rs, rp, rg] rfl rfl _ _ hrow0 rfl (by kernel_rfl) hon ?_; intro w8 rR g8))
    have b8 : Below wr.heap.size wr w8 := (below_alloc wr (.cells ([.int .i64 0, .int .i64 0, .int .i64 0, .int .i64 0, .slice none 0 0, .slice none 0 0, .slice none 0 0, .slice none 0 0] : List Value).toArray 28)).trans (grown_below g8 (by simp) (fun k hk => by cases hk; exact Nat.le_refl _))
    have rR := rR.out
    have hB8 := below_and hB (Nat.le_refl _) b8
    obtain ⟨cR, hcR⟩ : ∃ c, c = wr.heap.size := ⟨_, rfl⟩
    rw [← hcR] at rR ⊢
    clear hrow0 g8 hrng hon
    clear hcR b8
    have k3 := rR.cell (j := 3) rfl
    have hst := foldl_take (f := lowS) (b := 0) hA
    have HST := (show Hid (_ = _) from hst)
    clear hst hA hvs
    generalize (ys.take n).foldl lowS 0 = m at *
    go_wp2_with fail
    go_roundw
    case rel => exact ⟨n + 1, by omega, by go_num, by rw [HST.out]; rfl, hB8⟩
    case measure => simp [intOf]; omega
set_option maxRecDepth 10000 in
set_option maxHeartbeats 4000000 in
theorem highC_any (w : World) (v : Value) (ys : List PRep) (hvs : RL RRep 8 Any w v ys) : Calls Tryz.prog 53 #[v] w fun e w' => e = .returned (.int .i64 (higR ys)) ∧ Below w.heap.size w w' := by
  have hLo := lowC_any w v ys hvs
  obtain ⟨aa, ca, rfl, _⟩ := hvs.form
  have hlv := len_rep hvs
  go_enter Tryz.func53, Tryz.ntmps53
  go_upto_region 2 with (go_at_call 52; refine hLo.mono ?_; rintro e w1 ⟨rfl, b1⟩)
  clear hLo
  generalize hLR : lowR ys = LR at *
  go_wp2_with fail
  go_loopw [3, 12] (fun m j wr => ∃ n : Nat, n ≤ ys.length ∧ j = .int .i64 n ∧ m = .int .i64 ((ys.take n).foldl (fun m r => r.2.2.2.2.2.1.foldl higS m) LR) ∧ Below w.heap.size w wr) (fun _ j _ => ys.length - (intOf j).toNat)
  case atStart => exact ⟨0, by omega, rfl, rfl, b1⟩
  case round =>
    obtain ⟨n, hn, rfl, rfl, hB⟩ := hrel
    by_cases hnl : n < ys.length
    case neg =>
      have hy : higR ys = (ys.take n).foldl (fun m r => r.2.2.2.2.2.1.foldl higS m) LR := by
        rw [List.take_of_length_le (by omega)]
        unfold higR
        rw [hLR]
      have HY := (show Hid (_ = _) from hy)
      clear hy
      go_wp2_with fail
      go_ret
      exact ⟨by rw [HY.out]; rfl, hB⟩
    obtain ⟨A, hA⟩ : ∃ A, ys[n]? = some A := ⟨_, List.getElem?_eq_getElem hnl⟩
    obtain ⟨bv, off, cap, hve, _, _, _, hbv, hat⟩ := hvs.at (by omega)
    obtain ⟨rvv, _, hrng, rd, rs, rp, rg, rfl, t1, t2, t3, t4⟩ := hat n _ hA
    injection hve with hv1 hv2 hv3
    subst hv1 hv3
    clear hv2 hat
    have hrng := rangeAt_block hrng (hB.block bv hbv)
    have hrow0 := Row.new wr 28 [.int .i64 0, .int .i64 0, .int .i64 0, .int .i64 0, .slice none 0 0, .slice none 0 0, .slice none 0 0, .slice none 0 0]
    have hon := one_RRep (G := Any) (w := w) (x := A) ⟨rd, rs, rp, rg, rfl, t1, t2, t3, t4⟩
    go_upto_region 5 with (first
      | (refine wpList_load_mid rfl _ _ rfl bv (off + n * 8) rfl [.int .i64 A.1.1, .int .i64 A.1.2, .int .i64 A.2.1, .int .i64 A.2.2.1, rd, rs, rp, rg] _ hrng Tryz.underlying28 rfl (by kernel_rfl) ?_)
      | (refine wl_store rfl _ _ _ rfl wr.heap.size [.int .i64 A.1.1, .int .i64 A.1.2, .int .i64 A.2.1, .int .i64 A.2.2.1, rd, rs, rp, rg] rfl rfl _ _ hrow0 rfl (by kernel_rfl) hon ?_; intro w8 rR g8))
    have b8 : Below wr.heap.size wr w8 := (below_alloc wr (.cells ([.int .i64 0, .int .i64 0, .int .i64 0, .int .i64 0, .slice none 0 0, .slice none 0 0, .slice none 0 0, .slice none 0 0] : List Value).toArray 28)).trans (grown_below g8 (by simp) (fun k hk => by cases hk; exact Nat.le_refl _))
    have rR := rR.out
    have hB8 := below_and hB (Nat.le_refl _) b8
    obtain ⟨cR, hcR⟩ : ∃ c, c = wr.heap.size := ⟨_, rfl⟩
    rw [← hcR] at rR ⊢
    clear hrow0 g8 hrng hon
    clear hcR b8
    have hst := foldl_take (f := fun (m : Int) (r : PRep) => r.2.2.2.2.2.1.foldl higS m) (b := LR) hA
    have HST := (show Hid (_ = _) from hst)
    clear hst hA
    generalize (ys.take n).foldl (fun m r => r.2.2.2.2.2.1.foldl higS m) LR = m0 at *
    obtain ⟨pa, pcap, rfl, _⟩ := t3.form
    have k6 := rR.cell (j := 6) rfl
    have hlp : (A.2.2.2.2.2.1.length : Int) ≤ 9223372036854775807 := by
      by_cases h0 : 0 < A.2.2.2.2.2.1.length
      · obtain ⟨_, _, _, _, h1, h2, _⟩ := t3.at h0
        unfold maxLen at h2
        omega
      · omega
    have HT := (show Hid (RL RPrep 8 Any w (.slice pa A.2.2.2.2.2.1.length pcap) A.2.2.2.2.2.1) from t3)
    clear t1 t2 t3 t4 rR hB hvs
    generalize hPS : A.2.2.2.2.2.1 = PS at *
    go_wp2_with fail
    go_loopw [3, 19] (fun m j wr => ∃ i : Nat, i ≤ PS.length ∧ j = .int .i64 i ∧ m = .int .i64 ((PS.take i).foldl higS m0) ∧ Below w.heap.size w wr) (fun _ j _ => PS.length - (intOf j).toNat)
    case atStart => exact ⟨0, by omega, rfl, rfl, hB8⟩
    case round =>
      obtain ⟨i, hi, rfl, rfl, hB⟩ := hrel
      by_cases hil : i < PS.length
      case neg =>
        have hy : PS.take i = PS := List.take_of_length_le (by omega)
        have HY := (show Hid (PS.take i = PS) from hy)
        clear hy
        go_wp2_with fail
        go_roundw
        case rel => exact ⟨n + 1, by omega, by go_num, by rw [HST.out, HY.out] <;> first | rfl | (show _ = Value.int .i64 (A.2.2.2.2.2.1.foldl higS m0); rw [hPS]), hB⟩
        case measure => simp [intOf]; omega
      obtain ⟨P, hP⟩ : ∃ P, PS[i]? = some P := ⟨_, List.getElem?_eq_getElem hil⟩
      obtain ⟨bw, offp, capp, hve, _, _, _, hbw, hat⟩ := (HT.out).at (by omega)
      obtain ⟨rww, _, hrnp, po, ps, pc, rfl, u1, u2, u3⟩ := hat i _ hP
      injection hve with hv1 hv2 hv3
      subst hv1 hv3
      clear hv2 hat
      have hrnp := rangeAt_block hrnp (hB.block bw hbw)
      have hrow0 := Row.new wr 66 [.int .i64 0, .int .i64 0, .int .i64 0, .int .i64 0, .int .i64 0, .slice none 0 0, .slice none 0 0, .slice none 0 0]
      have hon := one_RPrep (G := Any) (w := w) (x := P) ⟨po, ps, pc, rfl, u1, u2, u3⟩
      go_upto_region 8 with (first
        | (refine wpList_load_mid rfl _ _ rfl bw (offp + i * 8) rfl [.int .i64 P.1, .int .i64 P.2.1.1, .int .i64 P.2.1.2, .int .i64 P.2.2.1.1, .int .i64 P.2.2.1.2.1, po, ps, pc] _ hrnp Tryz.underlying66 rfl (by kernel_rfl) ?_)
        | (refine wl_store rfl _ _ _ rfl wr.heap.size [.int .i64 P.1, .int .i64 P.2.1.1, .int .i64 P.2.1.2, .int .i64 P.2.2.1.1, .int .i64 P.2.2.1.2.1, po, ps, pc] rfl rfl _ _ hrow0 rfl (by kernel_rfl) hon ?_; intro w9 rP g9))
      have b9 : Below wr.heap.size wr w9 := (below_alloc wr (.cells ([.int .i64 0, .int .i64 0, .int .i64 0, .int .i64 0, .int .i64 0, .slice none 0 0, .slice none 0 0, .slice none 0 0] : List Value).toArray 66)).trans (grown_below g9 (by simp) (fun k hk => by cases hk; exact Nat.le_refl _))
      have rP := rP.out
      have hB9 := below_and hB (Nat.le_refl _) b9
      obtain ⟨cP, hcP⟩ : ∃ c, c = wr.heap.size := ⟨_, rfl⟩
      rw [← hcP] at rP ⊢
      clear hrow0 g9 hrnp hon
      clear hcP b9
      have k0 := rP.cell (j := 0) rfl
      have hst := foldl_take (f := higS) (b := m0) hP
      have HST2 := (show Hid (_ = _) from hst)
      clear hst hP
      generalize (PS.take i).foldl higS m0 = m1 at *
      go_wp2_with fail
      go_roundw
      case rel => exact ⟨i + 1, by omega, by go_num, by rw [HST2.out]; rfl, hB9⟩
      case measure => simp [intOf]; omega
end
section
open Go.RowKit Oct
/-- A request whose operation is memory of its own. -/
def ROq (G : Nat → Prop) (w : World) (r : List Value) (x : PReq) : Prop := ∃ o g, r = [.int .i64 x.1, .int .i64 x.2.1, o, g] ∧ OT G w o x.2.2.1 ∧ RT G w g x.2.2.2
theorem mov_oq : Mov ROq := fun _ _ _ _ _ _ h _ hm => by
  obtain ⟨o, g, e, h1, h2⟩ := h
  exact ⟨o, g, e, h1.mv hm, h2.mv hm⟩
theorem ROq.req {G : Nat → Prop} {w : World} {r : List Value} {x : PReq} (h : ROq G w r x) : RReq G w r x := by
  obtain ⟨o, g, e, h1, h2⟩ := h
  exact ⟨o, g, e, h1.rt, h2⟩
set_option maxRecDepth 10000 in
set_option maxHeartbeats 4000000 in
theorem cloneReqO_any (w : World) (r : List Value) (x : PReq) (h : RReq Any w r x) (hz : szQ x) :
    Calls Tryz.prog 83 #[.agg r.toArray] w fun e w' => ∃ r', e = .returned (.agg r'.toArray) ∧ ROq (From w.heap.size) w' r' x ∧ Below w.heap.size w w' := by
  obtain ⟨o1, o2, rfl, t1, t2⟩ := h
  obtain ⟨w2, hw2⟩ : ∃ w2, w2 = (w.alloc (.cells #[.int .i64 x.1, .int .i64 x.2.1, o1, o2] 62)).alloc (.cells #[.int .i64 0, .int .i64 0, .slice none 0 0, .slice none 0 0] 62) := ⟨_, rfl⟩
  have ra : Row w2 w.heap.size 62 [.int .i64 x.1, .int .i64 x.2.1, o1, o2] := by rw [hw2]; exact rowA (Row.new w 62 _) _
  have rr : Row w2 (w.heap.size + 1) 62 [.int .i64 0, .int .i64 0, .slice none 0 0, .slice none 0 0] := by
    have h1 : (w.alloc (.cells #[.int .i64 x.1, .int .i64 x.2.1, o1, o2] 62)).heap.size = w.heap.size + 1 := by simp
    rw [hw2, ← h1]
    exact Row.new (w.alloc (.cells #[.int .i64 x.1, .int .i64 x.2.1, o1, o2] 62)) 62 [.int .i64 0, .int .i64 0, .slice none 0 0, .slice none 0 0]
  have B : Below w.heap.size w w2 := by rw [hw2]; exact ((Below.refl _ w).alloc (Nat.le_refl _) _).alloc (by simp) _
  have hC : w.heap.size + 2 ≤ w2.heap.size := by rw [hw2]; simp
  go_enter Tryz.func83, Tryz.ntmps83
  go_upto_region 1 with fail
  rw [← hw2]
  clear hw2
  have hI := (t1.mv (Mv.below B))
  have cI := ra.cell (j := 2) rfl
  have hG := clone_own w2 _ _ hI.1 (Nat.le_trans (hz.1) (by decide))
  go_upto_region 2 with (first
    | (go_at_call 71; refine hG.mono ?_; rintro e wa0 ⟨v0, rfl, p0, q0, hb0⟩; have f0 := OT.own p0 hI.1.1 q0; clear p0 q0; have rai := ra.below hb0)
    | (refine wl_set rfl _ _ _ rfl w.heap.size 2 _ rfl rfl _ _ rai (show 2 < 4 by decide) (by kernel_rfl) f0.one ?_; intro wb0 rbi hg0))
  have ra : Row wb0 w.heap.size 62 [.int .i64 x.1, .int .i64 x.2.1, v0, o2] := rbi.out
  have rr := (rr.below hb0).grown hg0 (fun h => by injection h; omega)
  have f0 := ((f0.mv (Mv.weak (L := w.heap.size + 2) hC)).mv (Mv.from hg0 (by omega) (Nat.le_refl _)))
  have B : Below w.heap.size w wb0 := (below_and B (Nat.le_refl _) hb0).trans (grown_below hg0 (below_and B (Nat.le_refl _) hb0).size (fun k hk => by cases hk; exact Nat.le_refl _))
  have hC := Nat.le_trans hC (Nat.le_trans hb0.size hg0.size)
  clear hG hI rai rbi hb0 hg0 cI
  have hI := (t2.mv (Mv.below B))
  have cI := ra.cell (j := 3) rfl
  have hG := clone_any wb0 _ _ hI.1 (Nat.le_trans (hz.2) (by decide))
  go_upto_region 3 with (first
    | (go_at_call 71; refine hG.mono ?_; rintro e wa1 ⟨v1, rfl, f1, hb1⟩; have rai := ra.below hb1)
    | (refine wl_set rfl _ _ _ rfl w.heap.size 3 _ rfl rfl _ _ rai (show 3 < 4 by decide) (by kernel_rfl) f1.one ?_; intro wb1 rbi hg1))
  have ra : Row wb1 w.heap.size 62 [.int .i64 x.1, .int .i64 x.2.1, v0, v1] := rbi.out
  have rr := (rr.below hb1).grown hg1 (fun h => by injection h; omega)
  have f0 := ((f0.mv (Mv.belowF hb1 (Nat.le_refl _))).mv (Mv.from hg1 (by omega) (Nat.le_refl _)))
  have f1 := ((f1.mv (Mv.weak (L := w.heap.size + 2) hC)).mv (Mv.from hg1 (by omega) (Nat.le_refl _)))
  have B : Below w.heap.size w wb1 := (below_and B (Nat.le_refl _) hb1).trans (grown_below hg1 (below_and B (Nat.le_refl _) hb1).size (fun k hk => by cases hk; exact Nat.le_refl _))
  have hC := Nat.le_trans hC (Nat.le_trans hb1.size hg1.size)
  clear hG hI rai rbi hb1 hg1 cI
  have hone : ∀ v ∈ [.int .i64 x.1, .int .i64 x.2.1, v0, v1], v.oneCell' = true := by
    intro v hv
    have k_f0 := f0.one; have k_f1 := f1.one
    simp only [List.mem_cons, List.not_mem_nil, or_false] at hv
    rcases hv with rfl | rfl | rfl | rfl <;> first | rfl | assumption
  go_wp2_with (first
    | (refine wl_load rfl _ _ rfl w.heap.size rfl _ _ ra _ Tryz.underlying62 rfl (by kernel_rfl) ?_)
    | (refine wl_store rfl _ _ _ rfl (w.heap.size + 1) [.int .i64 x.1, .int .i64 x.2.1, v0, v1] rfl rfl _ _ rr rfl (by kernel_rfl) hone ?_; intro w9 rr9 hg9))
  have B9 : Below w.heap.size w w9 := B.trans (grown_below hg9 B.size (fun k hk => by cases hk; omega))
  have f0 := ((f0.mv (Mv.from hg9 (by omega) (Nat.le_refl _))).mv (Mv.weak (L := w.heap.size) (by omega)))
  have f1 := ((f1.mv (Mv.from hg9 (by omega) (Nat.le_refl _))).mv (Mv.weak (L := w.heap.size) (by omega)))
  refine bodyPost_ret (v := .agg ([.int .i64 x.1, .int .i64 x.2.1, v0, v1] : List Value).toArray) (results_cell_row rfl _ _ (w.heap.size + 1) _ _ (0, 0) _ (by rfl) rr9.out Tryz.underlying62 rfl (by kernel_rfl)) rfl ?_
  exact ⟨_, rfl, ⟨_, _, rfl, f0, f1⟩, B9⟩
/-- A pick, and the blocks between which its texts lie. -/
abbrev PZq := Nat × Nat × PReq
def RZq (G : Nat → Prop) (w : World) (r : List Value) (x : PZq) : Prop := ROq (fun k => G k ∧ x.1 ≤ k ∧ k < x.2.1) w r x.2.2
/-- The picks' blocks, one behind the other, from B on and below E. -/
def Asc (B E : Nat) : List PZq → Prop
  | [] => B ≤ E
  | z :: zs => B ≤ z.1 ∧ Asc z.2.1 E zs ∧ z.1 ≤ z.2.1
theorem Asc.le {E : Nat} : ∀ {zs : List PZq} {B : Nat}, Asc B E zs → B ≤ E
  | [], _, h => h
  | z :: zs, B, h => by have := Asc.le h.2.1; have := h.1; have := h.2.2; omega
theorem Asc.up {E F : Nat} (hE : E ≤ F) : ∀ {zs : List PZq} {B : Nat}, Asc B E zs → Asc B F zs
  | [], B, h => Nat.le_trans (show B ≤ E from h) hE
  | z :: zs, B, h => ⟨h.1, Asc.up hE h.2.1, h.2.2⟩
theorem Asc.mem {E : Nat} : ∀ {zs : List PZq} {B : Nat}, Asc B E zs → ∀ z ∈ zs, B ≤ z.1 ∧ z.2.1 ≤ E
  | [], _, _, z, hz => by cases hz
  | y :: zs, B, h, z, hz => by
    rcases List.mem_cons.1 hz with rfl | hz
    · exact ⟨h.1, Asc.le h.2.1⟩
    · have := Asc.mem h.2.1 z hz
      have := h.1; have := h.2.2
      omega
theorem Asc.take {E : Nat} : ∀ {zs : List PZq} {B i : Nat} {z : PZq}, Asc B E zs → zs[i]? = some z → ∀ y ∈ zs.take i, y.2.1 ≤ z.1
  | [], _, _, _, _, hi, _, _ => by simp at hi
  | x :: zs, B, 0, z, _, _, y, hy => by simp at hy
  | x :: zs, B, i + 1, z, h, hi, y, hy => by
    rw [List.take_succ_cons] at hy
    have hi : zs[i]? = some z := by simpa using hi
    rcases List.mem_cons.1 hy with rfl | hy
    · exact (Asc.mem h.2.1 z (List.mem_of_getElem? hi)).1
    · exact Asc.take h.2.1 hi y hy
/-- All that lies outside the first i picks' blocks is as it was, and so is block g. -/
structure Fz (g : Option Nat) (zs : List PZq) (i : Nat) (w0 w : World) : Prop where
  size : w0.heap.size ≤ w.heap.size
  blk : ∀ k, k < w0.heap.size → (g = some k ∨ ∀ z ∈ zs.take i, ¬ (z.1 ≤ k ∧ k < z.2.1)) → w.heap[k]? = w0.heap[k]?
theorem Fz.refl (g : Option Nat) (zs : List PZq) (w : World) : Fz g zs 0 w w := ⟨Nat.le_refl _, fun _ _ _ => rfl⟩
theorem take_sub {α : Type} {zs : List α} {i j : Nat} (h : i ≤ j) : ∀ z ∈ zs.take i, z ∈ zs.take j := fun z hz => by
  have e : zs.take i = (zs.take j).take i := by rw [List.take_take, Nat.min_eq_left h]
  rw [e] at hz
  exact List.mem_of_mem_take hz
theorem Fz.up {g : Option Nat} {zs : List PZq} {i j : Nat} {w0 w : World} (h : Fz g zs i w0 w) (hij : i ≤ j) : Fz g zs j w0 w :=
  ⟨h.size, fun k hk hn => h.blk k hk (hn.imp id fun hn z hz => hn z (take_sub hij z hz))⟩
theorem Fz.below {g : Option Nat} {zs : List PZq} {i : Nat} {w0 w w' : World} (h : Fz g zs i w0 w) (hb : Below w.heap.size w w') : Fz g zs i w0 w' :=
  ⟨Nat.le_trans h.size hb.size, fun k hk hn => (hb.block k (Nat.lt_of_lt_of_le hk h.size)).trans (h.blk k hk hn)⟩
theorem Fz.set {g : Option Nat} {zs : List PZq} {i : Nat} {w0 w w' : World} (h : Fz g zs (i + 1) w0 w) {z : PZq} (hz : zs[i]? = some z) {k : Nat} (hg : w.grownBy w' (some k)) (hk : z.1 ≤ k ∧ k < z.2.1) (hn : g ≠ some k) : Fz g zs (i + 1) w0 w' := by
  refine ⟨Nat.le_trans h.size hg.size, fun q hq hqn => ?_⟩
  have hne : q ≠ k := fun e => by
    subst e
    rcases hqn with e | hqn
    · exact hn e
    · refine hqn z ?_ hk
      rw [List.take_add_one, hz]
      exact List.mem_append_right _ (by simp)
  rw [hg.block q (Nat.lt_of_lt_of_le hq h.size) (fun e => hne (Option.some.inj e))]
  exact h.blk q hq hqn
/-- What pick i was is what it is. -/
theorem Fz.pick {g : Option Nat} {zs : List PZq} {i B E : Nat} {w0 w : World} (h : Fz g zs i w0 w) (ha : Asc B E zs) {z : PZq} (hz : zs[i]? = some z) {G : Nat → Prop} {r : List Value} (hr : RZq G w0 r z) : RZq G w r z :=
  mov_oq _ _ _ _ _ _ hr h.size fun k hk hl => ⟨h.blk k hl (.inr fun y hy hyk => by have := ha.take hz y hy; omega), hk⟩
end
section
open Go.RowKit Oct Bal
/-- The best that was found, in its box. -/
def RBs (w : World) (o : Option PPrep) (cs : List Value) : Prop := match o with | none => cs = [.int .i64 0, .int .i64 0, .int .i64 0, .int .i64 0, .int .i64 0, .slice none 0 0, .slice none 0 0, .slice none 0 0] | some p => RPrep Any w cs p
theorem RBs.len {w : World} {o : Option PPrep} {cs : List Value} (h : RBs w o cs) : cs.length = 8 := by
  cases o with
  | none => obtain rfl : cs = _ := h; rfl
  | some p => obtain ⟨_, _, _, rfl, _⟩ := h; rfl
set_option maxRecDepth 10000 in
set_option maxHeartbeats 8000000 in
theorem pickO_any (w : World) (k : Int) (v : Value) (ys : List PRep) (hvs : RL RRep 8 Any w v ys) (hz : ∀ r ∈ ys, ∀ p ∈ r.2.2.2.2.2.1, szQ p.2.2.1) :
    Calls Tryz.prog 54 #[.int .i64 k, v] w fun e w' => ∃ r, e = .returned (.agg r.toArray) ∧ ROq (From w.heap.size) w' r (reqO (pkR k ys)) ∧ Below w.heap.size w w' := by
  obtain ⟨aa, ca, rfl, _⟩ := hvs.form
  have hlv := len_rep hvs
  obtain ⟨w1, hw1⟩ : ∃ u, u = w.alloc (.cells #[.int .i64 0, .int .i64 0, .slice none 0 0, .slice none 0 0] 62) := ⟨_, rfl⟩
  obtain ⟨w2, hw2⟩ : ∃ u, u = w1.alloc (.cells #[.int .i64 0, .int .i64 0, .int .i64 0, .int .i64 0, .int .i64 0, .slice none 0 0, .slice none 0 0, .slice none 0 0] 66) := ⟨_, rfl⟩
  have e1 : w1.heap.size = w.heap.size + 1 := by rw [hw1]; simp
  have B1 : Below w.heap.size w w1 := by rw [hw1]; exact below_alloc _ _
  have B2 : Below w1.heap.size w1 w2 := by rw [hw2]; exact below_alloc _ _
  have R1 : Row w1 w.heap.size 62 [.int .i64 0, .int .i64 0, .slice none 0 0, .slice none 0 0] := by rw [hw1]; exact Row.new _ _ _
  have R2 : Row w2 (w.heap.size + 1) 66 [.int .i64 0, .int .i64 0, .int .i64 0, .int .i64 0, .int .i64 0, .slice none 0 0, .slice none 0 0, .slice none 0 0] := by rw [hw2, ← e1]; exact Row.new _ _ _
  have R1 := R1.below B2
  have BB := below_and B1 (Nat.le_refl _) B2
  have hw : w2 = (w.alloc (.cells #[.int .i64 0, .int .i64 0, .slice none 0 0, .slice none 0 0] 62)).alloc (.cells #[.int .i64 0, .int .i64 0, .int .i64 0, .int .i64 0, .int .i64 0, .slice none 0 0, .slice none 0 0, .slice none 0 0] 66) := by rw [hw2, hw1]
  clear hw1 hw2 e1 B1 B2
  have hz0 : ∀ p, (none : Option PPrep) = some p → szQ p.2.2.1 := fun p e => by cases e
  go_enter Tryz.func54, Tryz.ntmps54
  go_upto_region 3 with fail
  rw [← hw]
  clear hw
  go_wp2_with fail
  go_loopw [6, 13] (fun f j wr => ∃ (n : Nat) (cs : List Value), n ≤ ys.length ∧ j = .int .i64 n ∧ f = .bool ((ys.take n).foldl (fun (o : Option PPrep) (r : PRep) => pkL k o r.2.2.2.2.2.1) none).isSome ∧ RBs w ((ys.take n).foldl (fun (o : Option PPrep) (r : PRep) => pkL k o r.2.2.2.2.2.1) none) cs ∧ (∀ p, (ys.take n).foldl (fun (o : Option PPrep) (r : PRep) => pkL k o r.2.2.2.2.2.1) none = some p → szQ p.2.2.1) ∧ Row wr (w.heap.size + 1) 66 cs ∧ Row wr w.heap.size 62 [.int .i64 0, .int .i64 0, .slice none 0 0, .slice none 0 0] ∧ Below w.heap.size w wr) (fun _ j _ => ys.length - (intOf j).toNat)
  case atStart => exact ⟨0, _, by omega, rfl, rfl, rfl, hz0, R2, R1, BB⟩
  case round =>
    clear R1 R2 BB hz0
    obtain ⟨n, cs, hn, rfl, rfl, hbs, hsz, hRb, hRq, hB⟩ := hrel
    by_cases hnl : n < ys.length
    case neg =>
      have hy : pkR k ys = (ys.take n).foldl (fun (o : Option PPrep) (r : PRep) => pkL k o r.2.2.2.2.2.1) none := by
        rw [List.take_of_length_le (by omega)]
        rfl
      generalize (ys.take n).foldl (fun (o : Option PPrep) (r : PRep) => pkL k o r.2.2.2.2.2.1) none = o at *
      have HY := (show Hid (pkR k ys = o) from hy)
      clear hy
      obtain ⟨qo, qs, qc, hq1, hq2⟩ : ∃ (qo qs : Value) (qc : List Value), RReq Any w [.int .i64 (reqO o).1, .int .i64 (reqO o).2.1, qo, qs] (reqO o) ∧ (cs.drop 3).take 4 = [.int .i64 (reqO o).1, .int .i64 (reqO o).2.1, qo, qs] := by
        cases o with
        | none =>
          obtain rfl : cs = _ := hbs
          exact ⟨_, _, [], ⟨_, _, rfl, RT.nil _ _, RT.nil _ _⟩, rfl⟩
        | some p =>
          obtain ⟨po, ps, pc, rfl, u1, u2, u3⟩ := hbs
          exact ⟨_, _, [], ⟨_, _, rfl, u1, u2⟩, rfl⟩
      have hqz : szQ (reqO o) := by
        cases o with
        | none => exact ⟨Nat.zero_le _, Nat.zero_le _⟩
        | some p => exact hsz p rfl
      have hCl := cloneReqO_any wr _ _ (mov_req _ _ _ _ _ _ hq1 hB.size (Mv.below hB)) hqz
      have hBs := hB.size
      clear hq1 hbs hsz hqz
      go_wp2_with (first
        | (refine wl_part rfl _ _ rfl (w.heap.size + 1) 3 rfl _ _ hRb [.int .i64 (reqO o).1, .int .i64 (reqO o).2.1, qo, qs] hq2 _ Tryz.underlying62 rfl (by kernel_rfl) ?_)
        | (go_at_call 83; refine hCl.mono ?_; rintro e w5 ⟨r5, rfl, hr5, b5⟩; obtain ⟨ro, rs, rfl, f1, f2⟩ := hr5; have hRq5 := hRq.below b5; have hro := f1.one; have hrs := f2.one)
        | (refine wl_store rfl _ _ _ rfl w.heap.size [.int .i64 (reqO o).1, .int .i64 (reqO o).2.1, ro, rs] rfl rfl _ _ hRq5 rfl (by kernel_rfl) (one4 hro hrs) ?_; intro w6 R6 g6))
      refine bodyPost_ret (v := .agg ([.int .i64 (reqO o).1, .int .i64 (reqO o).2.1, ro, rs] : List Value).toArray) (results_cell_row rfl _ _ w.heap.size _ _ (0, 0) _ (by rfl) R6.out Tryz.underlying62 rfl (by kernel_rfl)) rfl ?_
      have hlt := hRq.lt
      have hBf : Below w.heap.size w w6 := (below_and hB (Nat.le_refl _) b5).trans (grown_below g6 (Nat.le_trans hBs b5.size) (fun q hq => by cases hq; exact Nat.le_refl _))
      exact ⟨_, rfl, by rw [HY.out]; exact mov_oq _ _ _ _ _ _ (⟨_, _, rfl, f1, f2⟩ : ROq (From wr.heap.size) w5 _ _) g6.size (Mv.from (B := wr.heap.size) g6 (by omega) hBs), hBf⟩
    obtain ⟨A, hA⟩ : ∃ A, ys[n]? = some A := ⟨_, List.getElem?_eq_getElem hnl⟩
    obtain ⟨bv, off, cap, hve, _, _, _, hbv, hat⟩ := hvs.at (by omega)
    obtain ⟨rvv, _, hrng, rd, rs, rp, rg, rfl, t1, t2, t3, t4⟩ := hat n _ hA
    injection hve with hv1 hv2 hv3
    subst hv1 hv3
    clear hv2 hat
    have hrng := rangeAt_block hrng (hB.block bv hbv)
    have hrow0 := Row.new wr 28 [.int .i64 0, .int .i64 0, .int .i64 0, .int .i64 0, .slice none 0 0, .slice none 0 0, .slice none 0 0, .slice none 0 0]
    have hon := one_RRep (G := Any) (w := w) (x := A) ⟨rd, rs, rp, rg, rfl, t1, t2, t3, t4⟩
    go_upto_region 6 with (first
      | (refine wpList_load_mid rfl _ _ rfl bv (off + n * 8) rfl [.int .i64 A.1.1, .int .i64 A.1.2, .int .i64 A.2.1, .int .i64 A.2.2.1, rd, rs, rp, rg] _ hrng Tryz.underlying28 rfl (by kernel_rfl) ?_)
      | (refine wl_store rfl _ _ _ rfl wr.heap.size [.int .i64 A.1.1, .int .i64 A.1.2, .int .i64 A.2.1, .int .i64 A.2.2.1, rd, rs, rp, rg] rfl rfl _ _ hrow0 rfl (by kernel_rfl) hon ?_; intro w8 rR g8))
    have b8 : Below wr.heap.size wr w8 := (below_alloc wr (.cells ([.int .i64 0, .int .i64 0, .int .i64 0, .int .i64 0, .slice none 0 0, .slice none 0 0, .slice none 0 0, .slice none 0 0] : List Value).toArray 28)).trans (grown_below g8 (by simp) (fun k hk => by cases hk; exact Nat.le_refl _))
    have rR := rR.out
    have hB8 := below_and hB (Nat.le_refl _) b8
    obtain ⟨cR, hcR⟩ : ∃ c, c = wr.heap.size := ⟨_, rfl⟩
    rw [← hcR] at rR ⊢
    clear hrow0 g8 hrng hon
    clear hcR
    have hzA := hz A (List.mem_of_getElem? hA)
    have hst := foldl_take (f := (fun (o : Option PPrep) (r : PRep) => pkL k o r.2.2.2.2.2.1)) (b := none) hA
    have HST := (show Hid (_ = _) from hst)
    have hRb8 := hRb.below b8
    have hRq8 := hRq.below b8
    clear hst hA b8
    generalize (ys.take n).foldl (fun (o : Option PPrep) (r : PRep) => pkL k o r.2.2.2.2.2.1) none = o0 at *
    obtain ⟨pa, pcap, rfl, _⟩ := t3.form
    have k6 := rR.cell (j := 6) rfl
    have hlp : (A.2.2.2.2.2.1.length : Int) ≤ 9223372036854775807 := by
      by_cases h0 : 0 < A.2.2.2.2.2.1.length
      · obtain ⟨_, _, _, _, h1, h2, _⟩ := t3.at h0
        unfold maxLen at h2
        omega
      · omega
    have HT := (show Hid (RL RPrep 8 Any w (.slice pa A.2.2.2.2.2.1.length pcap) A.2.2.2.2.2.1) from t3)
    have HS2 := (show Hid ((fun (o : Option PPrep) (r : PRep) => pkL k o r.2.2.2.2.2.1) o0 A = A.2.2.2.2.2.1.foldl (pkS k) o0) from rfl)
    clear t1 t2 t3 t4 rR hB hRb hRq
    generalize hPS : A.2.2.2.2.2.1 = PS at *
    clear hPS
    go_wp2_with fail
    go_loopw [6, 20] (fun f j wr => ∃ (i : Nat) (cs : List Value), i ≤ PS.length ∧ j = .int .i64 i ∧ f = .bool ((PS.take i).foldl (pkS k) o0).isSome ∧ RBs w ((PS.take i).foldl (pkS k) o0) cs ∧ (∀ p, (PS.take i).foldl (pkS k) o0 = some p → szQ p.2.2.1) ∧ Row wr (w.heap.size + 1) 66 cs ∧ Row wr w.heap.size 62 [.int .i64 0, .int .i64 0, .slice none 0 0, .slice none 0 0] ∧ Below w.heap.size w wr) (fun _ j _ => PS.length - (intOf j).toNat)
    case atStart => exact ⟨0, _, by omega, rfl, rfl, hbs, hsz, hRb8, hRq8, hB8⟩
    case round =>
      clear hbs hsz hRb8 hRq8 hB8 k6
      obtain ⟨i, cs, hi, rfl, rfl, hbs, hsz, hRb, hRq, hB⟩ := hrel
      by_cases hil : i < PS.length
      case neg =>
        have hy : PS.take i = PS := List.take_of_length_le (by omega)
        have e : (PS.take i).foldl (pkS k) o0 = (ys.take (n + 1)).foldl (fun (o : Option PPrep) (r : PRep) => pkL k o r.2.2.2.2.2.1) none := by rw [hy, HST.out]; first | rfl | exact HS2.out.symm | exact HS2.out
        rw [e] at hbs hsz
        have HE := (show Hid (_ = _) from e)
        clear hy e
        go_wp2_with fail
        go_roundw
        case rel => exact ⟨n + 1, _, by omega, by go_num, by rw [HE.out], hbs, hsz, hRb, hRq, hB⟩
        case measure => simp [intOf]; omega
      obtain ⟨P, hP⟩ : ∃ P, PS[i]? = some P := ⟨_, List.getElem?_eq_getElem hil⟩
      obtain ⟨bw, offp, capp, hve, _, _, _, hbw, hat⟩ := (HT.out).at (by omega)
      obtain ⟨rww, _, hrnp, po, ps, pc, rfl, u1, u2, u3⟩ := hat i _ hP
      injection hve with hv1 hv2 hv3
      subst hv1 hv3
      clear hv2 hat
      have hrnp := rangeAt_block hrnp (hB.block bw hbw)
      have hrow0 := Row.new wr 66 [.int .i64 0, .int .i64 0, .int .i64 0, .int .i64 0, .int .i64 0, .slice none 0 0, .slice none 0 0, .slice none 0 0]
      have hon := one_RPrep (G := Any) (w := w) (x := P) ⟨po, ps, pc, rfl, u1, u2, u3⟩
      go_upto_region 9 with (first
        | (refine wpList_load_mid rfl _ _ rfl bw (offp + i * 8) rfl [.int .i64 P.1, .int .i64 P.2.1.1, .int .i64 P.2.1.2, .int .i64 P.2.2.1.1, .int .i64 P.2.2.1.2.1, po, ps, pc] _ hrnp Tryz.underlying66 rfl (by kernel_rfl) ?_)
        | (refine wl_store rfl _ _ _ rfl wr.heap.size [.int .i64 P.1, .int .i64 P.2.1.1, .int .i64 P.2.1.2, .int .i64 P.2.2.1.1, .int .i64 P.2.2.1.2.1, po, ps, pc] rfl rfl _ _ hrow0 rfl (by kernel_rfl) hon ?_; intro w9 rP g9))
      have b9 : Below wr.heap.size wr w9 := (below_alloc wr (.cells ([.int .i64 0, .int .i64 0, .int .i64 0, .int .i64 0, .int .i64 0, .slice none 0 0, .slice none 0 0, .slice none 0 0] : List Value).toArray 66)).trans (grown_below g9 (by simp) (fun k hk => by cases hk; exact Nat.le_refl _))
      have rP := rP.out
      have hB9 := below_and hB (Nat.le_refl _) b9
      obtain ⟨cP, hcP⟩ : ∃ c, c = wr.heap.size := ⟨_, rfl⟩
      rw [← hcP] at rP ⊢
      clear hrow0 g9 hrnp hon
      have hzP := hzA P (List.mem_of_getElem? hP)
      have hst := foldl_take (f := pkS k) (b := o0) hP
      have HST2 := (show Hid (_ = _) from hst)
      have hRb9 := hRb.below b9
      have hRq9 := hRq.below b9
      have hcPb : cP ≠ w.heap.size + 1 ∧ cP ≠ w.heap.size := by have := hRb.lt; have := hRq.lt; omega
      have hlb := hbs.len
      have HP := (show Hid (RPrep Any w [.int .i64 P.1, .int .i64 P.2.1.1, .int .i64 P.2.1.2, .int .i64 P.2.2.1.1, .int .i64 P.2.2.1.2.1, po, ps, pc] P) from ⟨_, _, _, rfl, u1, u2, u3⟩)
      clear hst hP b9 hcP u1 u2 u3 hRb hRq
      generalize (PS.take i).foldl (pkS k) o0 = o at *
      have z0 := rP.cell (j := 0) rfl
      have keep : pkS k o P = o → RBs w (pkS k o P) cs ∧ (∀ p, pkS k o P = some p → szQ p.2.2.1) := fun e => by rw [e]; exact ⟨hbs, hsz⟩
      have HK := (show Hid (pkS k o P = o → RBs w (pkS k o P) cs ∧ (∀ p, pkS k o P = some p → szQ p.2.2.1)) from keep)
      clear keep
      by_cases hk : P.1 = k
      case neg =>
        have d1 : (P.1 == k) = false := by simp [hk]
        have e : pkS k o P = o := by unfold pkS; simp [hk]
        have HE := (show Hid (pkS k o P = o) from e)
        clear e hk
        go_wp2_with fail
        go_roundw
        case rel => exact ⟨i + 1, cs, by omega, by go_num, by rw [HST2.out, HE.out], by rw [HST2.out]; exact (HK.out HE.out).1, by rw [HST2.out]; exact (HK.out HE.out).2, hRb9, hRq9, hB9⟩
        case measure => simp [intOf]; omega
      have d1 : (P.1 == k) = true := by simp [hk]
      cases o with
      | none =>
        have e : pkS k none P = some P := by unfold pkS bea; simp [hk]
        have HE := (show Hid (pkS k none P = some P) from e)
        have hon8 := one_RPrep HP.out
        clear e hk
        go_wp2_with (first
          | (refine wl_load rfl _ _ rfl cP rfl _ _ rP _ Tryz.underlying66 rfl (by kernel_rfl) ?_)
          | (refine wl_store rfl _ _ _ rfl (w.heap.size + 1) [.int .i64 P.1, .int .i64 P.2.1.1, .int .i64 P.2.1.2, .int .i64 P.2.2.1.1, .int .i64 P.2.2.1.2.1, po, ps, pc] rfl rfl _ _ hRb9 hlb (by kernel_rfl) hon8 ?_; intro wx Rx gx))
        go_roundw
        case rel => exact ⟨i + 1, _, by omega, by go_num, by rw [HST2.out, HE.out]; rfl, by rw [HST2.out, HE.out]; exact HP.out, by rw [HST2.out, HE.out]; intro p hp; cases hp; exact hzP, Rx.out, hRq9.grown gx (fun e => by have := Option.some.inj e; omega), hB9.trans (grown_below gx hB9.size (fun q hq => by cases hq; omega))⟩
        case measure => simp [intOf]; omega
      | some q =>
        obtain ⟨qo, qs, qc, rfl, q1, q2, q3⟩ := hbs
        have hC := compareB_any w9 P.2.1.1 P.2.1.2 q.2.1.1 q.2.1.2
        have hE0 : pkS k (some q) P = if decide (0 < cmp2 P.2.1.1 P.2.1.2 q.2.1.1 q.2.1.2) then some P else some q := by unfold pkS bea; simp [hk]
        clear hk
        generalize cmp2 P.2.1.1 P.2.1.2 q.2.1.1 q.2.1.2 = cc at *
        have hon8 := one_RPrep HP.out
        cases hd : decide (0 < cc) with
        | false =>
          rw [hd] at hE0
          have HE := (show Hid (pkS k (some q) P = some q) from hE0)
          clear hE0
          go_wp2_with (first
            | (refine wl_part_w (by rfl) _ _ rfl cP 1 rfl _ _ rP [.int .i64 P.2.1.1, .int .i64 P.2.1.2] rfl _ Tryz.underlying23 rfl (by kernel_rfl) ?_)
            | (refine wl_part_w (by rfl) _ _ rfl (w.heap.size + 1) 1 rfl _ _ hRb9 [.int .i64 q.2.1.1, .int .i64 q.2.1.2] rfl _ Tryz.underlying23 rfl (by kernel_rfl) ?_)
            | (go_at_call 82; refine hC.mono ?_; rintro e wx ⟨rfl, bx⟩))
          go_roundw
          case rel => exact ⟨i + 1, _, by omega, by go_num, by rw [HST2.out, HE.out]; rfl, by rw [HST2.out]; exact (HK.out HE.out).1, by rw [HST2.out]; exact (HK.out HE.out).2, hRb9.below bx, hRq9.below bx, below_and hB9 (Nat.le_refl _) bx⟩
          case measure => simp [intOf]; omega
        | true =>
          rw [hd] at hE0
          have HE := (show Hid (pkS k (some q) P = some P) from hE0)
          clear hE0
          go_wp2_with (first
            | (refine wl_part_w (by rfl) _ _ rfl cP 1 rfl _ _ rP [.int .i64 P.2.1.1, .int .i64 P.2.1.2] rfl _ Tryz.underlying23 rfl (by kernel_rfl) ?_)
            | (refine wl_part_w (by rfl) _ _ rfl (w.heap.size + 1) 1 rfl _ _ hRb9 [.int .i64 q.2.1.1, .int .i64 q.2.1.2] rfl _ Tryz.underlying23 rfl (by kernel_rfl) ?_)
            | (go_at_call 82; refine hC.mono ?_; rintro e wx ⟨rfl, bx⟩; have rPx := rP.below bx; have hRbx := hRb9.below bx; have hRqx := hRq9.below bx)
            | (refine wl_load rfl _ _ rfl cP rfl _ _ rPx _ Tryz.underlying66 rfl (by kernel_rfl) ?_)
            | (refine wl_store rfl _ _ _ rfl (w.heap.size + 1) [.int .i64 P.1, .int .i64 P.2.1.1, .int .i64 P.2.1.2, .int .i64 P.2.2.1.1, .int .i64 P.2.2.1.2.1, po, ps, pc] rfl rfl _ _ hRbx rfl (by kernel_rfl) hon8 ?_; intro wy Ry gy))
          have hBx := below_and hB9 (Nat.le_refl _) bx
          go_roundw
          case rel => exact ⟨i + 1, _, by omega, by go_num, by rw [HST2.out, HE.out]; rfl, by rw [HST2.out, HE.out]; exact HP.out, by rw [HST2.out, HE.out]; intro p hp; cases hp; exact hzP, Ry.out, hRqx.grown gy (fun e => by have := Option.some.inj e; omega), hBx.trans (grown_below gy hBx.size (fun q hq => by cases hq; omega))⟩
          case measure => simp [intOf]; omega
theorem pickC_any (w : World) (k : Int) (v : Value) (ys : List PRep) (hvs : RL RRep 8 Any w v ys) (hz : ∀ r ∈ ys, ∀ p ∈ r.2.2.2.2.2.1, szQ p.2.2.1) :
    Calls Tryz.prog 54 #[.int .i64 k, v] w fun e w' => ∃ r, e = .returned (.agg r.toArray) ∧ RReq (From w.heap.size) w' r (reqO (pkR k ys)) ∧ Below w.heap.size w w' :=
  (pickO_any w k v ys hvs hz).mono fun e w' ⟨r, h1, h2, h3⟩ => ⟨r, h1, h2.req, h3⟩
end
end Go.Proofs.YtgbfmccecnfooaaGreatDoor
