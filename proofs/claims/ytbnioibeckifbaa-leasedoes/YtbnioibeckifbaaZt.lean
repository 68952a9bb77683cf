/- The walks over package lease: told, canDo, Holder; DeleteFunc on a list that was built. -/
import Derived.Test.YtbnioibeckifbaaZf
import Derived.Test.YtbnioibeckifbaaKr
set_option linter.unusedVariables false
set_option linter.unusedSimpArgs false
namespace Go.Proofs.Ytbnioibeckifbaa
open Go.RowKit Oct Kvl

theorem LB.opnS {B : Nat} {w : World} {v : Value} {ys : List PEnt} (h : LB OLea 50 3 B w v ys) (hp : 0 < ys.length) : ∃ (g cap : Nat) (cur : List Value) (rows : List (List Value)), v = .slice (some ⟨g, 0, none⟩) ys.length cap ∧ Row w g 50 cur ∧ cur.length = cap * 3 ∧ ys.length ≤ cap ∧ cap ≤ maxLen ∧ B ≤ g ∧ rows.length = ys.length ∧ (∀ r ∈ rows, r.length = 3) ∧ cur.take (ys.length * 3) = rows.flatten ∧ All2 (OLea (fun b => B ≤ b ∧ b ≠ g) w) rows ys := by
  obtain ⟨rows, h0, hown, hfr, hall⟩ := h
  have hlen := hall.len
  rw [hlen] at hown
  rcases hown.2 with ⟨_, h4⟩ | ⟨g, cap, cur, rfl, _, hg, hc1, hc2, hc3, hc4⟩
  · omega
  · exact ⟨g, cap, cur.toList, rows, rfl, by unfold Row; simpa using hg, by simpa using hc3, hc1, hc2, hfr g rfl, hlen, h0, hc4, hall.mono fun q b hq => mov_olea _ _ _ _ _ _ hq (Nat.le_refl _) fun k hk _ => ⟨rfl, hk.1, fun e => hk.2 (by simp [Value.ownBlock, e])⟩⟩
theorem LB.mkS {B : Nat} {w : World} {ys : List PEnt} {g cap n : Nat} {cur : List Value} {rows : List (List Value)} (h1 : Row w g 50 cur) (h2 : cur.length = cap * 3) (h3 : n ≤ cap) (h4 : cap ≤ maxLen) (h5 : B ≤ g) (h6 : rows.length = n) (h7 : ∀ r ∈ rows, r.length = 3) (h8 : cur.take (n * 3) = rows.flatten)
    (h9 : All2 (OLea (fun b => B ≤ b ∧ b ≠ g) w) rows ys) : LB OLea 50 3 B w (.slice (some ⟨g, 0, none⟩) n cap) ys :=
  ⟨rows, h7, ⟨flat_len h7, .inr ⟨g, cap, cur.toArray, by rw [h6], Nat.zero_le _, h1, by omega, h4, by simpa using h2, by rw [h6]; simpa using h8⟩⟩, fr_at _ _ _ _ h5, h9.mono fun q b hq => mov_olea _ _ _ _ _ _ hq (Nat.le_refl _) fun k hk _ => ⟨rfl, hk.1, fun e => hk.2 (by simp [Value.ownBlock] at e; exact e.symm)⟩⟩
/-- What was built can be read. -/
theorem Rs.rl {B : Nat} {w : World} {v : Value} {ys : List PEnt} (h : LB OLea 50 3 B w v ys) : RL RLea 3 Any w v ys := (h.rl mov_olea).lea.mv mov_lea (Nat.le_refl _) Mv.any
theorem indexS_nil (w : World) (ao : Option Addr) (cap : Nat) (f : Value) : Calls Try.prog 64 #[.slice ao 0 cap, f] w fun e w' => e = .returned (.int .i64 (-1)) ∧ w' = w := by
  go_enter Try.func64, Try.ntmps64
  go_wp2_with fail
  refine wp_loop_rounds 1 ?_; rw [rounds_succ]
  go_wp2_with fail
  go_ret
  exact ⟨rfl, rfl⟩
/-- slices.DeleteFunc. -/
theorem deleteF_any (w : World) (v : Value) (B : Nat) (ys : List PEnt) (h : LB OLea 50 3 B w v ys) (hn : ys.length ≤ 64) (nb : Nat) (now : Int) (tn : TypeId) (hc : Row w nb tn [.int .i64 now]) (htn : tn ≠ 50) :
    Calls Try.prog 43 #[v, .func (.func 44) #[] #[.pointer (some ⟨nb, 0, none⟩)]] w fun e w' => ∃ v', e = .returned v' ∧ LB OLea 50 3 B w' v' (liv now ys) ∧ w.grownBy w' v.ownBlock := by
  rcases Nat.eq_zero_or_pos ys.length with h0 | hp
  · obtain rfl : ys = [] := List.eq_nil_of_length_eq_zero h0
    obtain ⟨ao, cap, rfl, _⟩ := (Rs.rl h).form
    have hI := indexS_nil w ao cap (.func (.func 44) #[] #[.pointer (some ⟨nb, 0, none⟩)])
    have HL := (show Hid (LB OLea 50 3 B w (.slice ao ([] : List PEnt).length cap) []) from h)
    clear h
    go_enter Try.func43, Try.ntmps43
    go_wp2_with fail
    refine hI.mono ?_
    rintro e w1 ⟨rfl, rfl⟩
    go_wp2_with fail
    go_ret
    exact ⟨_, rfl, HL.out, grown_refl _ _⟩
  · have hRL := Rs.rl h
    obtain ⟨g, cap, cur, rows, rfl, k1, k2, k3, k4, k5, k6, k7, k8, k9⟩ := h.opnS hp
    refine (deleteF_row w B g cap ys.length cur rows ys k1 k2 k7 k6 hp k8 k3 k4 hn k9 hRL nb now (hc.cell (j := 0) rfl) (hc.apart k1 htn)).mono ?_
    rintro e w' ⟨m, rfl, hg, hm, cur', r1, r2, r3, r4⟩
    refine ⟨_, rfl, LB.mkS r1 r2 (by omega) k4 k5 r3 (fun r hr => k7 r (List.mem_filter.1 hr).1) r4 ?_, hg⟩
    exact All2.filt (k9.mono fun q b hq => mov_olea _ (fun b => B ≤ b ∧ b ≠ g) _ _ _ _ hq hg.size fun k hk hlt => ⟨hg.block k hlt (fun e => hk.2 (Option.some.inj e)), hk⟩) (fun r y hr => lvr_lea hr)

set_option maxRecDepth 10000 in
/-- lease.told. -/
theorem told_any (w : World) (r : List Value) (x : PEnt) (h : RLea Any w r x) (now : Int) (h1 : 0 ≤ lo x.2) (h2 : lo x.2 ≤ 2147483647) (h3 : 0 ≤ lu x.2 - now) (h4 : lu x.2 - now ≤ 2147483647) :
    Calls Try.prog 47 #[.agg r.toArray, .int .i64 now] w fun e w' => ∃ v', e = .returned v' ∧ OT (From w.heap.size) w' v' (tol x.2 now) ∧ Below w.heap.size w w' := by
  have le := Nat.le_refl w.heap.size
  obtain ⟨a, p, q, rfl, ha, hx⟩ := h
  have hp : lo x.2 = p := by rw [hx]; rfl
  have hq : lu x.2 = q := by rw [hx]; rfl
  unfold tol
  rw [hp] at h1 h2 ⊢
  rw [hq] at h3 h4 ⊢
  obtain ⟨w0, hw0⟩ : ∃ w0, w0 = w.alloc (.cells #[a, .int .i64 p, .int .i64 q] 50) := ⟨_, rfl⟩
  have ra : Row w0 w.heap.size 50 [a, .int .i64 p, .int .i64 q] := by rw [hw0]; exact Row.new w _ _
  have B0 : Below w.heap.size w w0 := by rw [hw0]; exact below_alloc _ _
  have i1 := int_any w0 p
  have i2 := fun u => int_any u (q - now)
  rw [errI_yes h1 h2, outI_yes h1 h2] at i1
  rw [errI_yes h3 h4, outI_yes h3 h4] at i2
  have bp := enc_byt p (by omega) (by omega)
  have bq := enc_byt (q - now) (by omega) (by omega)
  have ep := enc_len p
  have eq := enc_len (q - now)
  have c1 := ra.cell (j := 1) rfl
  have hwr : IntKind.i64.wrap (q - now) = q - now := wrapN (by omega) (by omega)
  have I2 := (show Hid (∀ u : World, Calls Try.prog 68 #[.int .i64 (q - now)] u fun e w' => ∃ v, e = .returned (.tuple #[v, .int .i64 0]) ∧ Own w' 5 v (bc (enc (q - now))) ∧ Fr u.heap.size v ∧ Below u.heap.size u w') from i2)
  clear i2 hx hp hq
  generalize enc p = TP at *
  generalize enc (q - now) = TQ at *
  go_enter Try.func47, Try.ntmps47
  go_upto_region 1 with fail
  rw [← hw0]
  clear hw0
  go_upto_region 2 with (go_at_call 68; refine i1.mono ?_; rintro e w2 ⟨v2, rfl, p2, f2, hb2⟩)
  have B2 := below_and B0 le hb2
  have x2 := ra.below hb2
  have c2 := x2.cell (j := 2) rfl
  have p2 := p2.rd bp
  obtain ⟨ax2, cx2, rfl, hcx2⟩ := p2.form
  clear c1 i1
  go_upto_region 3 with (go_at_call 68; refine (I2.out _).mono ?_; rintro e w3 ⟨v3, rfl, p3, f3, hb3⟩)
  have B3 := below_and B2 le hb3
  have p3 := p3.rd bq
  have p2 := p2.below hb3
  obtain ⟨ax3, cx3, rfl, hcx3⟩ := p3.form
  have hba := below_alloc w3 (.cells ([.slice ax2 TP.length cx2, .slice ax3 TQ.length cx3] : List Value).toArray 23)
  have hR : Rdl (w3.alloc (.cells ([.slice ax2 TP.length cx2, .slice ax3 TQ.length cx3] : List Value).toArray 23)) (.slice (some ⟨w3.heap.size, 0, none⟩) 2 2) [TP, TQ] :=
    ⟨[.slice ax2 TP.length cx2, .slice ax3 TQ.length cx3], rdv_lit w3 _ _ (by simp) (by simp), p2.below hba, p3.below hba, trivial⟩
  have hC := concat_any _ _ _ hR (by simp) (by simp) (by simp only [List.flatten_cons, List.flatten_nil, List.length_append]; omega) (by simp only [List.flatten_cons, List.flatten_nil, List.length_append, List.length_nil]; omega)
  go_wp2_with (go_at_call 69; refine hC.mono ?_; rintro e w4 ⟨v4, rfl, p4, f4, hb4⟩)
  go_ret
  have hsum : [TP, TQ].flatten = TP ++ TQ := by simp
  rw [hsum] at p4
  have bb := below_and B3 le hba
  exact ⟨_, rfl, OT.own p4 (bp.app bq) (f4.mono bb.size), below_and bb le hb4⟩

set_option maxRecDepth 10000 in
/-- lease.canDo. -/
theorem canDo_any (w : World) (r : List Value) (o : POp) (h : ROp Any w r o) :
    Calls Try.prog 40 #[.agg r.toArray] w fun e w' => e = .returned (.bool (decide (wok o ∧ 5 ≤ o.1))) ∧ Below w.heap.size w w' := by
  have hall := h
  obtain ⟨vn, va, vb, rfl, hn, ha, hb⟩ := h
  obtain ⟨w0, hw0⟩ : ∃ w0, w0 = w.alloc (.cells #[.int .i64 o.1, vn, va, vb, .int .i64 o.2.2.2.2] 25) := ⟨_, rfl⟩
  have ra : Row w0 w.heap.size 25 [.int .i64 o.1, vn, va, vb, .int .i64 o.2.2.2.2] := by rw [hw0]; exact Row.new w 25 _
  have B0 : Below w.heap.size w w0 := by rw [hw0]; exact below_alloc _ _
  have hC := write_any w0 _ o (mov_op _ _ _ _ _ _ hall B0.size (Mv.below B0))
  unfold errW at hC
  by_cases hw : wok o
  · rw [if_pos hw] at hC
    rw [show decide (wok o ∧ 5 ≤ o.1) = decide (5 ≤ o.1) by simp [hw]]
    go_enter Try.func40, Try.ntmps40
    go_upto_region 1 with fail
    rw [← hw0]
    clear hw0
    go_wp2_with (first
      | (refine wl_load rfl _ _ rfl w.heap.size rfl _ _ ra _ Try.underlying25 rfl (by kernel_rfl) ?_)
      | (go_at_call 63; refine hC.mono ?_; rintro e w2 ⟨v2, rfl, _, _, hb2⟩; have c0 := (ra.below hb2).cell (j := 0) rfl))
    go_ret
    exact ⟨rfl, below_and B0 (Nat.le_refl _) hb2⟩
  · rw [if_neg hw] at hC
    rw [decide_eq_false (fun h => hw h.1)]
    go_enter Try.func40, Try.ntmps40
    go_upto_region 1 with fail
    rw [← hw0]
    clear hw0
    go_wp2_with (first
      | (refine wl_load rfl _ _ rfl w.heap.size rfl _ _ ra _ Try.underlying25 rfl (by kernel_rfl) ?_)
      | (go_at_call 63; refine hC.mono ?_; rintro e w2 ⟨v2, rfl, _, _, hb2⟩; have c0 := (ra.below hb2).cell (j := 0) rfl))
    go_ret
    exact ⟨rfl, below_and B0 (Nat.le_refl _) hb2⟩
end Go.Proofs.Ytbnioibeckifbaa
