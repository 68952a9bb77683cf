/- catenarylaw05.MsgTrails. -/
import Derived.Test.YtogifpainhepoabLMBack
import Derived.Test.YtogifpainhepoabAw
set_option linter.unusedVariables false
namespace Go.Proofs.Ytogifpainhepoab
open Go.RowKit Oct

theorem dec_cut {m : PMsg} (h : badM m = false) (hb : Byt (byM m)) (hl : (byM m).length ≤ 1048576) {k : Nat} (hk : k < (byM m).length) : decE ((byM m).take k) = 51 := by
  refine (decE_bad ?_ (rdM_cut h hb hk)).1
  rw [List.length_take]; omega
theorem dec_more {m : PMsg} (h : badM m = false) {r : List Int} (hr : r ≠ []) : (decE (byM m ++ r) = 51 ∧ (byM m).length + r.length ≤ 1048576) ∨ (decE (byM m ++ r) = 53 ∧ 1048576 < (byM m).length + r.length) := by
  by_cases hl : 1048576 < (byM m ++ r).length
  · exact .inr ⟨(decE_many hl).1, by rw [List.length_append] at hl; exact hl⟩
  · exact .inl ⟨(decE_bad hl (rdM_more h hr)).1, by rw [List.length_append] at hl; omega⟩

theorem rd_take {w : World} {ao : Option Addr} {n cap : Nat} {l : List Int} (h : Rd w (.slice ao n cap) l) (k : Nat) (hk : k ≤ l.length) : Rd w (.slice ao k cap) (l.take k) := by
  obtain ⟨hb, ao', cap', e, c1, c2, c3, c4⟩ := h
  injection e with e1 e2 e3
  subst e1 e3
  clear e2
  have hl : (bc (l.take k)).length = k := by rw [bc_len, List.length_take]; omega
  rw [bc_len] at c1
  refine ⟨hb.take k, ao, cap, by rw [hl], by omega, c2, fun ha => ⟨?_, (c3 ha).2⟩, fun a ha j u hu => c4 a ha j u ?_⟩
  · have := (c3 ha).1
    have : l = [] := List.length_eq_zero_iff.1 (by rw [← bc_len, this]; rfl)
    rw [this]; simp [bc]
  · have hj : j < k := by
      have := (List.getElem?_eq_some_iff.1 hu).1
      omega
    rw [bc_getD _ _ (by rw [List.length_take]; omega)] at hu
    rw [bc_getD _ _ (by omega), ← hu]
    simp [List.getD, hj]

/-- What stands behind the cut. -/
def TrQ (w : World) (e : Ending) (w' : World) : Prop := e = .returned (.bool true) ∧ Below w.heap.size w w'
set_option maxRecDepth 10000 in
set_option maxHeartbeats 2000000 in
/-- MsgTrails. -/
theorem trails_any (w : World) (m : PMsg) (s : SV) (cut : Int) (mv : Value) (r : List Int) (hs : SOk Any w m s) (hr : Rd w mv r) (hz : szM m) (hrl : r.length ≤ 140737488351232) :
    Calls Try.prog 3 #[.agg (mc m s).toArray, .int .i64 cut, mv] w fun e w' => e = .returned (.bool true) ∧ Below w.heap.size w w' := by
  have hrbyt := hr.1
  obtain ⟨mo, mcap, rfl, hmcap⟩ := hr.2.form
  rw [bc_len] at hr ⊢
  have ra := Row.new w 32 (mc m s)
  have hB0 := below_alloc w (.cells (mc m s).toArray 32)
  obtain ⟨w0, hw0⟩ : ∃ w0, w0 = w.alloc (.cells (mc m s).toArray 32) := ⟨_, rfl⟩
  rw [← hw0] at ra hB0
  go_enter Try.func3, Try.ntmps3
  go_upto_region 1 with fail
  rw [← hw0]
  clear hw0
  go_wp2_with fail
  refine (alive_any w0).mono ?_
  rintro e w1 ⟨rfl, hb1⟩
  have ra1 := ra.below hb1
  have hB1 := below_and hB0 (Nat.le_refl _) hb1
  go_wp2_with (refine wl_load rfl _ _ rfl w.heap.size rfl _ _ ra1 _ Try.underlying32 rfl (by kernel_rfl) ?_)
  refine (copyMsg_any w1 m s (hs.below hB1) hz).mono ?_
  rintro e w2 ⟨s2, rfl, hs2, hb2⟩
  have hB2 := below_and hB1 (Nat.le_refl _) hb2
  go_wp2_with fail
  refine (encode_any w2 m s2 hs2.any).mono ?_
  rintro e w3 ⟨v3, rfl, hown3, hbyt3, hfr3, hb3⟩
  have hB3 := below_and hB2 (Nat.le_refl _) hb3
  clear ra ra1 hB0 hB1 hB2 hb1 hb2 hb3 hs2 hfr3
  rcases enc_cases m with ⟨he, hb⟩ | ⟨he, hb⟩ | ⟨he, hbad, hb, hlen⟩
  · rw [he]
    clear he hb
    go_wp2_with fail
    go_ret
    exact ⟨rfl, hB3⟩
  · rw [he]
    clear he hb
    go_wp2_with fail
    go_ret
    exact ⟨rfl, hB3⟩
  · rw [hb] at hown3 hbyt3
    rw [he]
    clear he hb
    obtain ⟨ao3, cap3, rfl, hcap3⟩ := hown3.form
    rw [bc_len] at hown3 ⊢
    have hrw3' := hr.below hB3
    have hrdw3 := hown3.rd hbyt3
    have hBw3 := hB3
    clear hr
    have hcases : (∃ k : Nat, cut = (k : Int) ∧ k < (byM m).length) ∨ cut < 0 ∨ (0 ≤ cut ∧ ((byM m).length : Int) ≤ cut) := by
      by_cases h0 : cut < 0
      · exact .inr (.inl h0)
      · by_cases h1 : cut < ((byM m).length : Int)
        · exact .inl ⟨cut.toNat, by omega, by omega⟩
        · exact .inr (.inr ⟨by omega, by omega⟩)
    have hlc : (byM m).length ≤ cap3 := by
      obtain ⟨ao', cap', e, c1, _⟩ := hrdw3.2
      rw [bc_len] at e c1
      cases e
      exact c1
    by_cases hr0 : r = []
    · subst hr0
      rcases hcases with ⟨k, rfl, hkl⟩ | h0 | ⟨h0, h1⟩
      · have hrdk := rd_take hrdw3 k (by omega)
        have hki : (k : Int) < ((byM m).length : Int) := by omega
        have hkc : k ≤ cap3 := by omega
        go_wp2_with (at_builtin; refine app_copy rfl _ _ rfl rfl _ ((byM m).take k) rfl hrdk (by rw [List.length_take]; omega) ?_; intro v4 w4 hown4 hfr4 hb4)
        refine (decode_any w4 v4 _ ⟨hown4.rd (hbyt3.take k), fun _ _ _ => trivial⟩).mono ?_
        rintro e w5 ⟨s5, rfl, hs5, hb5⟩
        rw [dec_cut hbad hbyt3 hlen hkl]
        have honew5 := hs5.any.one
        have hroww5 := Row.new w5 32 (mc zeroM sv0)
        have hB5 := below_and (below_and hB3 (Nat.le_refl _) hb4) (Nat.le_refl _) hb5
        generalize decM ((byM m).take k) = m5 at *
        have hb45 := below_and hb4 (Nat.le_refl _) hb5
        clear hs5 hown4 hfr4 hb4 hb5 hrdk
        go_wp2_with (refine wl_store rfl _ _ _ rfl w5.heap.size (mc (m5) s5) rfl rfl _ _ hroww5 rfl (by kernel_rfl) honew5 ?_; intro w5s hrw5 hgw5; have hbw5 : Below w5.heap.size w5 w5s := (below_alloc w5 (.cells (mc zeroM sv0).toArray 32)).trans (grown_below hgw5 (by simp) (fun k hk => by cases hk; exact Nat.le_refl _)))
        go_ret
        exact ⟨rfl, below_and hB5 (Nat.le_refl _) hbw5⟩
      · have hn : ¬ (0 ≤ cut) := by omega
        go_wp2_with fail
        go_ret
        exact ⟨rfl, hB3⟩
      · have hn : ¬ (cut < ((byM m).length : Int)) := by omega
        go_wp2_with fail
        go_ret
        exact ⟨rfl, hB3⟩
    · have hrn : ¬ ((r.length : Int) = 0) := fun h => hr0 (List.length_eq_zero_iff.1 (by omega))
      rcases hcases with ⟨k, rfl, hkl⟩ | h0 | ⟨h0, h1⟩
      · have hrdk := rd_take hrdw3 k (by omega)
        have hki : (k : Int) < ((byM m).length : Int) := by omega
        have hkc : k ≤ cap3 := by omega
        go_wp2_with (at_builtin; refine app_copy rfl _ _ rfl rfl _ ((byM m).take k) rfl hrdk (by rw [List.length_take]; omega) ?_; intro v4 w4 hown4 hfr4 hb4)
        refine (decode_any w4 v4 _ ⟨hown4.rd (hbyt3.take k), fun _ _ _ => trivial⟩).mono ?_
        rintro e w5 ⟨s5, rfl, hs5, hb5⟩
        rw [dec_cut hbad hbyt3 hlen hkl]
        have honew5 := hs5.any.one
        have hroww5 := Row.new w5 32 (mc zeroM sv0)
        have hB5 := below_and (below_and hB3 (Nat.le_refl _) hb4) (Nat.le_refl _) hb5
        generalize decM ((byM m).take k) = m5 at *
        have hb45 := below_and hb4 (Nat.le_refl _) hb5
        clear hs5 hown4 hfr4 hb4 hb5 hrdk
        have hb35 : Below w3.heap.size w3 w5 := hb45
        go_wp2_with (first
          | (refine wl_store rfl _ _ _ rfl w5.heap.size (mc (m5) s5) rfl rfl _ _ hroww5 rfl (by kernel_rfl) honew5 ?_; intro w5s hrw5 hgw5; have hbw5 : Below w5.heap.size w5 w5s := (below_alloc w5 (.cells (mc zeroM sv0).toArray 32)).trans (grown_below hgw5 (by simp) (fun k hk => by cases hk; exact Nat.le_refl _)); have hrdw5s := (hrdw3.below hb35).below hbw5; have hrw5s' := (hrw3'.below hb35).below hbw5; have hBw5s := below_and hB5 (Nat.le_refl _) hbw5)
          | (at_builtin; refine app_copy rfl _ _ rfl rfl _ (byM m) rfl hrdw5s (by omega) ?_; intro v6 w6 hown6 hfr6 hb6; have hr6 := hrw5s'.below hb6)
          | (at_builtin; refine app_wide rfl _ _ rfl v6 (byM m) rfl hown6 _ _ _ r rfl hr6.2 hr0 (by omega) ?_; intro v7 w7 hown7 hg7))
        have hb7 : Below w5s.heap.size w5s w7 := hb6.trans (grown_below hg7 hb6.size hfr6)
        have hB7 := below_and hBw5s (Nat.le_refl _) hb7
        refine (decode_any w7 v7 _ ⟨hown7.rd (hbyt3.app hrbyt), fun _ _ _ => trivial⟩).mono ?_
        rintro e w8 ⟨s8, rfl, hs8, hb8⟩
        have honew8 := hs8.any.one
        have hroww8 := Row.new w8 32 (mc zeroM sv0)
        have hB8 := below_and hB7 (Nat.le_refl _) hb8
        rcases dec_more hbad hr0 with ⟨e1, e2⟩ | ⟨e1, e2⟩ <;> rw [e1] <;> generalize decM (byM m ++ r) = m8 at * <;> clear hs8 hown7 hg7 hb7 hB7 hb8 hown6 hfr6 hb6 hr6 e1
        · go_wp2_with (refine wl_store rfl _ _ _ rfl w8.heap.size (mc (m8) s8) rfl rfl _ _ hroww8 rfl (by kernel_rfl) honew8 ?_; intro w8s hrw8 hgw8; have hbw8 : Below w8.heap.size w8 w8s := (below_alloc w8 (.cells (mc zeroM sv0).toArray 32)).trans (grown_below hgw8 (by simp) (fun k hk => by cases hk; exact Nat.le_refl _)))
          go_ret
          exact ⟨rfl, below_and hB8 (Nat.le_refl _) hbw8⟩
        · have e3 : (1048576 : Int) < ((byM m).length : Int) + (r.length : Int) := by omega
          go_wp2_with (refine wl_store rfl _ _ _ rfl w8.heap.size (mc (m8) s8) rfl rfl _ _ hroww8 rfl (by kernel_rfl) honew8 ?_; intro w8s hrw8 hgw8; have hbw8 : Below w8.heap.size w8 w8s := (below_alloc w8 (.cells (mc zeroM sv0).toArray 32)).trans (grown_below hgw8 (by simp) (fun k hk => by cases hk; exact Nat.le_refl _)))
          go_ret
          exact ⟨rfl, below_and hB8 (Nat.le_refl _) hbw8⟩
      · have hn : ¬ (0 ≤ cut) := by omega
        go_wp2_with (first
          | (at_builtin; refine app_copy rfl _ _ rfl rfl _ (byM m) rfl hrdw3 (by omega) ?_; intro v6 w6 hown6 hfr6 hb6; have hr6 := hrw3'.below hb6)
          | (at_builtin; refine app_wide rfl _ _ rfl v6 (byM m) rfl hown6 _ _ _ r rfl hr6.2 hr0 (by omega) ?_; intro v7 w7 hown7 hg7))
        have hb7 : Below w3.heap.size w3 w7 := hb6.trans (grown_below hg7 hb6.size hfr6)
        have hB7 := below_and hBw3 (Nat.le_refl _) hb7
        refine (decode_any w7 v7 _ ⟨hown7.rd (hbyt3.app hrbyt), fun _ _ _ => trivial⟩).mono ?_
        rintro e w8 ⟨s8, rfl, hs8, hb8⟩
        have honew8 := hs8.any.one
        have hroww8 := Row.new w8 32 (mc zeroM sv0)
        have hB8 := below_and hB7 (Nat.le_refl _) hb8
        rcases dec_more hbad hr0 with ⟨e1, e2⟩ | ⟨e1, e2⟩ <;> rw [e1] <;> generalize decM (byM m ++ r) = m8 at * <;> clear hs8 hown7 hg7 hb7 hB7 hb8 hown6 hfr6 hb6 hr6 e1
        · go_wp2_with (refine wl_store rfl _ _ _ rfl w8.heap.size (mc (m8) s8) rfl rfl _ _ hroww8 rfl (by kernel_rfl) honew8 ?_; intro w8s hrw8 hgw8; have hbw8 : Below w8.heap.size w8 w8s := (below_alloc w8 (.cells (mc zeroM sv0).toArray 32)).trans (grown_below hgw8 (by simp) (fun k hk => by cases hk; exact Nat.le_refl _)))
          go_ret
          exact ⟨rfl, below_and hB8 (Nat.le_refl _) hbw8⟩
        · have e3 : (1048576 : Int) < ((byM m).length : Int) + (r.length : Int) := by omega
          go_wp2_with (refine wl_store rfl _ _ _ rfl w8.heap.size (mc (m8) s8) rfl rfl _ _ hroww8 rfl (by kernel_rfl) honew8 ?_; intro w8s hrw8 hgw8; have hbw8 : Below w8.heap.size w8 w8s := (below_alloc w8 (.cells (mc zeroM sv0).toArray 32)).trans (grown_below hgw8 (by simp) (fun k hk => by cases hk; exact Nat.le_refl _)))
          go_ret
          exact ⟨rfl, below_and hB8 (Nat.le_refl _) hbw8⟩
      · have hn : ¬ (cut < ((byM m).length : Int)) := by omega
        go_wp2_with (first
          | (at_builtin; refine app_copy rfl _ _ rfl rfl _ (byM m) rfl hrdw3 (by omega) ?_; intro v6 w6 hown6 hfr6 hb6; have hr6 := hrw3'.below hb6)
          | (at_builtin; refine app_wide rfl _ _ rfl v6 (byM m) rfl hown6 _ _ _ r rfl hr6.2 hr0 (by omega) ?_; intro v7 w7 hown7 hg7))
        have hb7 : Below w3.heap.size w3 w7 := hb6.trans (grown_below hg7 hb6.size hfr6)
        have hB7 := below_and hBw3 (Nat.le_refl _) hb7
        refine (decode_any w7 v7 _ ⟨hown7.rd (hbyt3.app hrbyt), fun _ _ _ => trivial⟩).mono ?_
        rintro e w8 ⟨s8, rfl, hs8, hb8⟩
        have honew8 := hs8.any.one
        have hroww8 := Row.new w8 32 (mc zeroM sv0)
        have hB8 := below_and hB7 (Nat.le_refl _) hb8
        rcases dec_more hbad hr0 with ⟨e1, e2⟩ | ⟨e1, e2⟩ <;> rw [e1] <;> generalize decM (byM m ++ r) = m8 at * <;> clear hs8 hown7 hg7 hb7 hB7 hb8 hown6 hfr6 hb6 hr6 e1
        · go_wp2_with (refine wl_store rfl _ _ _ rfl w8.heap.size (mc (m8) s8) rfl rfl _ _ hroww8 rfl (by kernel_rfl) honew8 ?_; intro w8s hrw8 hgw8; have hbw8 : Below w8.heap.size w8 w8s := (below_alloc w8 (.cells (mc zeroM sv0).toArray 32)).trans (grown_below hgw8 (by simp) (fun k hk => by cases hk; exact Nat.le_refl _)))
          go_ret
          exact ⟨rfl, below_and hB8 (Nat.le_refl _) hbw8⟩
        · have e3 : (1048576 : Int) < ((byM m).length : Int) + (r.length : Int) := by omega
          go_wp2_with (refine wl_store rfl _ _ _ rfl w8.heap.size (mc (m8) s8) rfl rfl _ _ hroww8 rfl (by kernel_rfl) honew8 ?_; intro w8s hrw8 hgw8; have hbw8 : Below w8.heap.size w8 w8s := (below_alloc w8 (.cells (mc zeroM sv0).toArray 32)).trans (grown_below hgw8 (by simp) (fun k hk => by cases hk; exact Nat.le_refl _)))
          go_ret
          exact ⟨rfl, below_and hB8 (Nat.le_refl _) hbw8⟩
end Go.Proofs.Ytogifpainhepoab
