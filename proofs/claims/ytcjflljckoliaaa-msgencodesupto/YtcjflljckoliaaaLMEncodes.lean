/- catenarylaw05.MsgEncodes: its walk. -/
import Derived.Test.YtcjflljckoliaaaNa
import Derived.Test.YtcjflljckoliaaaMAlive
import Derived.Test.YtcjflljckoliaaaC3
import Derived.Test.YtcjflljckoliaaaS3
import Derived.Laws.BitsAllLaws
set_option linter.unusedVariables false
set_option linter.unusedSimpArgs false
namespace Go.Proofs.Ytcjflljckoliaaa
open Go.RowKit Oct

theorem xor_rngM {y : Int} (h : 0 ≤ y ∧ y ≤ 255) : 0 ≤ bits .xor .u8 y 255 ∧ bits .xor .u8 y 255 ≤ 255 := by
  rw [u8_xor y 255 h.1 (by omega) (by decide) (by decide)]
  have : y.toNat ^^^ (255 : Int).toNat < 2 ^ 8 := Nat.xor_lt_two_pow (by omega) (by decide)
  omega
/-- A text of the call's own, at a place. -/
theorem Own.at_byte {w : World} {v : Value} {l : List Int} (h : Own w 5 v (bc l)) {j : Nat} (hj : j < l.length) :
    ∃ (k cap : Nat) (cur : List Value) (y : Int), v = .slice (some ⟨k, 0, none⟩) l.length cap ∧ l.length ≤ cap ∧ cap ≤ maxLen ∧ Row w k 5 cur ∧ j < cur.length ∧ cur[j]? = some (.int .u8 y) ∧ l[j]? = some y ∧
      ∀ (w' : World) (x : Int), Row w' k 5 (cur.set j (.int .u8 x)) → Own w' 5 v (bc (l.set j x)) := by
  obtain ⟨h1, h2⟩ := h
  rcases h2 with ⟨_, h3⟩ | ⟨k, cap, cur, e, h0, hh, n1, n2, n3, n4⟩
  · rw [bc_len] at h3; omega
  · have e' : v = .slice (some ⟨k, 0, none⟩) (bc l).length cap := e
    rw [bc_len] at e'
    have hy : (bc l)[j]? = some (.int .u8 l[j]) := by rw [bc_at, List.getElem?_eq_getElem hj]; rfl
    rw [← n4, List.getElem?_take] at hy
    rw [bc_len] at n1 hy
    split at hy
    · refine ⟨k, cap, cur.toList, l[j], e', by omega, n2, by unfold Row; simpa using hh, (List.getElem?_eq_some_iff.1 hy).1, hy, List.getElem?_eq_getElem hj, fun w' x hr => ?_⟩
      have hbc : bc (l.set j x) = (bc l).set j (.int .u8 x) := by unfold bc; rw [List.map_set]
      have hn : (bc (l.set j x)).length = (bc l).length := by rw [hbc, List.length_set]
      show World.ownsRow _ 0 _ 1 _ (bc (l.set j x)).length _
      rw [hn, hbc]
      refine ⟨by simp, .inr ⟨k, cap, (cur.toList.set j (.int .u8 x)).toArray, e, h0, hr, by rw [bc_len]; exact n1, n2, by simpa using n3, ?_⟩⟩
      rw [List.toList_toArray, List.take_set, n4]
    · cases hy
theorem szV_of {x : PVote} (h : bV x ≤ 2000000) : szV x := by
  simp only [bV, bT] at h
  show szT x.2
  unfold szT
  omega
theorem szL_of {α : Type} {b : Nat} {p : α → Prop} {f : α → Nat} (hf : ∀ y, 1 ≤ f y) {ys : List α} (hb : b ≤ 1000) (h : bL f ys ≤ 2000000) (hp : ∀ y, f y ≤ 2000000 → p y) : szL b p ys := by
  simp only [bL] at h
  have h1 := len_bS hf ys
  have h2 : ys.length * b ≤ 2000000 * 1000 := Nat.mul_le_mul (by omega) hb
  exact ⟨by omega, fun y hy => hp y (by have := bS_mem (f := f) hy; omega)⟩
theorem szQ_of {x : PReq} (h : bQ x ≤ 2000000) : szQ x := by
  simp only [bQ, bT] at h
  exact ⟨by unfold szT; omega, by unfold szT; omega⟩
theorem szP_of {x : PPrep} (h : bP x ≤ 2000000) : szP x := by
  simp only [bP] at h
  exact ⟨szQ_of (by omega), szL_of (f := bV) (fun y => by simp only [bV]; omega) (by decide) (by omega) fun y hy => szV_of hy⟩
theorem szR_of {x : PRep} (h : bR x ≤ 2000000) : szR x := by
  simp only [bR] at h
  refine ⟨?_, szL_of (f := bV) (fun y => by simp only [bV]; omega) (by decide) (by omega) fun y hy => szV_of hy, szL_of (f := bP) (fun y => by simp only [bP]; omega) (by decide) (by omega) fun y hy => szP_of hy, ?_⟩
  · simp only [bT] at h; unfold szT; omega
  · simp only [bT] at h; unfold szT; omega

theorem szM_of {m : PMsg} (h : bM m ≤ 1100000) : szM m := by
  simp only [bM] at h
  exact ⟨szQ_of (by omega), szQ_of (by omega), by simp only [bT] at h; unfold szT; omega, by simp only [bT] at h; unfold szT; omega,
    szL_of (f := bV) (fun y => by simp only [bV]; omega) (by decide) (by omega) fun y hy => szV_of hy, szL_of (f := bV) (fun y => by simp only [bV]; omega) (by decide) (by omega) fun y hy => szV_of hy,
    szL_of (f := fun _ => 1) (fun _ => by omega) (by decide) (by omega) fun _ _ => trivial, szL_of (f := bQ) (fun y => by simp only [bQ]; omega) (by decide) (by omega) fun y hy => szQ_of hy,
    szL_of (f := bR) (fun y => by simp only [bR]; omega) (by decide) (by omega) fun y hy => szR_of hy⟩
set_option maxRecDepth 10000 in
set_option maxHeartbeats 4000000 in
/-- MsgEncodes. -/
theorem encodes_row (w : World) (m : PMsg) (s : SV) (hs : SOk Any w m s) (hz : bM m ≤ 1048576) : Calls Try.prog 3 #[.agg (mc m s).toArray] w fun e w' => e = .returned (.bool true) ∧ Below w.heap.size w w' := by
  have le := Nat.le_refl w.heap.size
  have hzz : bM m ≤ 1100000 := by omega
  have hsz := szM_of hzz
  obtain ⟨w0, hw0⟩ : ∃ w0, w0 = w.alloc (.cells (mc m s).toArray 32) := ⟨_, rfl⟩
  have x0 : Row w0 w.heap.size 32 (mc m s) := by rw [hw0]; exact Row.new w _ _
  have B0 : Below w.heap.size w w0 := by rw [hw0]; exact below_alloc _ _
  go_enter Try.func3, Try.ntmps3
  go_upto_region 1 with fail
  rw [← hw0]
  clear hw0
  go_upto_region 3 with (go_at_call 5; refine (alive_any w0).mono ?_; rintro e w1 ⟨rfl, hb1⟩)
  have B1 := below_and B0 le hb1
  have x1 := x0.below hb1
  clear hb1 B0 x0
  have hC := copyMsg_any w1 m s (hs.below B1) hsz
  go_upto_region 4 with (first
    | (refine wl_load rfl _ _ rfl w.heap.size rfl _ _ x1 _ Try.underlying32 rfl (by kernel_rfl) ?_)
    | (go_at_call 6; refine hC.mono ?_; rintro e w2 ⟨s2, rfl, hs2, hb2⟩; have hrow := Row.new w2 32 (mc zeroM sv0); have hone := hs2.one)
    | (refine wl_store rfl _ _ _ rfl w2.heap.size (mc m s2) rfl rfl _ _ hrow rfl (by kernel_rfl) hone ?_; intro w3 hr3 hg3))
  have q3 : Below w2.heap.size w2 w3 := (below_alloc w2 (.cells (mc zeroM sv0).toArray 32)).trans (grown_below hg3 (by simp) (fun k hk => by cases hk; exact Nat.le_refl _))
  have q13 := below_and hb2 (Nat.le_refl _) q3
  have B3 := below_and B1 le q13
  have x3 := x1.below q13
  have y3 := hr3.out
  have hs3 := (hs2.mv (G' := Any) (Nat.le_refl _) Mv.any).below q3
  obtain ⟨bw, hbw⟩ : ∃ bw, bw = w2.heap.size := ⟨_, rfl⟩
  have hbw3 : bw < w3.heap.size := by rw [hbw]; exact y3.lt
  rw [← hbw] at y3 ⊢
  clear hbw hr3 hg3 q3 q13 hC hrow hone hs2 hb2 x1 B1
  have hE := encode_any w3 m s2 hs3
  go_upto_region 5 with (first
    | (refine wl_load rfl _ _ rfl bw rfl _ _ y3 _ Try.underlying32 rfl (by kernel_rfl) ?_)
    | (go_at_call 7; refine hE.mono ?_; rintro e w4 ⟨v4, rfl, o4, b4, f4, hb4⟩))
  have B4 := below_and B3 le hb4
  have x4 := x3.below hb4
  have hR := refEncode_any w4 m s (hs.below B4) hzz
  go_upto_region 6 with (first
    | (refine wl_load rfl _ _ rfl w.heap.size rfl _ _ x4 _ Try.underlying32 rfl (by kernel_rfl) ?_)
    | (go_at_call 8; refine hR.mono ?_; rintro e w5 ⟨v5, rfl, r5, hb5⟩))
  have hc5 := below_and hb4 (Nat.le_refl _) hb5
  have B5 := below_and B3 le hc5
  have o5 := o4.below hb5
  have hS := same_any w5 v4 v5 _ _ (o5.rd b4) r5
  rw [decide_eq_true rfl] at hS
  have hee : (encE m != encE m) = false := by simp
  generalize encE m = ee at *
  obtain ⟨av, cv, rfl, hcv, hcv2⟩ : ∃ av cv, v4 = .slice av (encB m).length cv ∧ (encB m).length ≤ cv ∧ cv ≤ maxLen := by
    obtain ⟨_, av, cv, e, h1, h2, _⟩ := o5.rd b4
    rw [bc_len] at e h1
    exact ⟨av, cv, e, h1, h2⟩
  have HI := (show Hid (∃ l : List Int, l.length = (encB m).length ∧ Own w5 5 (.slice av (encB m).length cv) (bc l) ∧ Byt l) from ⟨_, rfl, o5, b4⟩)
  have HX := (show Hid (∀ u, Below w3.heap.size w3 u → Row u bw 32 (mc m s2) ∧ Row u w.heap.size 32 (mc m s)) from fun u hu => ⟨y3.below hu, x3.below hu⟩)
  have HS := (show Hid (∀ u, Below w3.heap.size w3 u → Calls Try.prog 10 #[.agg (mc m s2).toArray, .agg (mc m s).toArray] u fun e w' => e = .returned (.bool true) ∧ Below u.heap.size u w') from fun u hu => sameMsg_eq u m s2 s (hs3.below hu) (hs.below (below_and B3 le hu)))
  have hlm : ((encB m).length : Int) ≤ 9223372036854775807 := by unfold maxLen at hcv2; omega
  generalize (encB m).length = N at *
  go_upto_region 8 with (go_at_call 9; refine hS.mono ?_; rintro e w5 ⟨rfl, rfl⟩)
  clear hS r5 o5 o4 b4 hE hR hb4 hb5 B4 x4 hee hs3 x3 y3 B5
  go_wp2_with fail
  go_loopw [34] (fun i wr => ∃ q : Nat, q ≤ N ∧ i = .int .i64 q ∧ Below w3.heap.size w3 wr ∧ Hid (∃ l : List Int, l.length = N ∧ Own wr 5 (.slice av N cv) (bc l) ∧ Byt l)) (fun i _ => N - (intOf i).toNat)
  case atStart => exact ⟨0, Nat.zero_le _, rfl, hc5, HI⟩
  case round =>
    clear HI hc5
    obtain ⟨q, hq, rfl, hB, HI⟩ := hrel
    by_cases hql : q < N
    · obtain ⟨l, hl, ho, hb⟩ := HI.out
      obtain ⟨k, cap, cur, y, e, k1, k2, k4, k5, k6, k7, kset⟩ := ho.at_byte (j := q) (by omega)
      have hk3 : w3.heap.size ≤ k := f4 k (by rw [e]; rfl)
      injection e with e1 e2 e3
      subst e1 e3
      have c2 := k4.cell k6
      have hy := hb y (List.mem_of_getElem? k7)
      have hx := xor_rngM hy
      have KS := (show Hid (∀ (w' : World) (x : Int), Row w' k 5 (cur.set q (.int .u8 x)) → Own w' 5 (.slice (some ⟨k, 0, none⟩) N cv) (bc (l.set q x))) from kset)
      have HLB := (show Hid (l.length = N ∧ Byt l) from ⟨hl, hb⟩)
      clear kset ho k6 k7 hl hb e2 k1 HI
      go_wp2_with (refine wl_set rfl _ _ _ rfl k q _ rfl rfl _ _ k4 k5 (by kernel_rfl) rfl ?_; intro w6 hr6 hg6)
      go_roundw
      case rel =>
        refine ⟨q + 1, by omega, by go_num, hB.trans (grown_below hg6 hB.size (fun j hj => by cases hj; exact hk3)), l.set q (bits .xor .u8 y 255), by rw [List.length_set]; exact HLB.out.1, KS.out _ _ hr6.out, fun z hz => ?_⟩
        rcases List.mem_or_eq_of_mem_set hz with hz | rfl
        · exact HLB.out.2 z hz
        · exact hx
      case measure => simp [intOf]; omega
    · have hqd : decide ((q : Int) < N) = false := by simp; omega
      obtain ⟨yw, xw⟩ := HX.out _ hB
      have hSM := HS.out _ hB
      go_wp2_with (first
        | (refine wl_load rfl _ _ rfl bw rfl _ _ yw _ Try.underlying32 rfl (by kernel_rfl) ?_)
        | (refine wl_load rfl _ _ rfl w.heap.size rfl _ _ xw _ Try.underlying32 rfl (by kernel_rfl) ?_)
        | (go_at_call 10; refine hSM.mono ?_; rintro e w7 ⟨rfl, hb7⟩))
      go_ret
      exact ⟨rfl, below_and (below_and B3 le hB) le hb7⟩
end Go.Proofs.Ytcjflljckoliaaa
