/- PROVED HERE: at all arguments catenarylaw15.LedgerRuns returns true and leaves its arguments as they were (the statement LedgerRunsUptoCardSaid); under one condition: what comes in holds at most 1048576 values and letters; the table sha.constants is laid by the program text, the card ties it. -/
import Derived.Test.YtajmgpgjkalfkaaDoorJI
import Derived.Test.YtajmgpgjkalfkaaDoorJN
import Derived.Test.YtajmgpgjkalfkaaDoorJO
import Derived.Test.YtajmgpgjkalfkaaDoorJP
import Derived.Test.YtajmgpgjkalfkaaDoorRows
import Derived.Test.YtajmgpgjkalfkaaDoorV5
import Derived.Deep.DeepHandedRow
import Derived.Lib.LaidTab
import Derived.Test.YtajmgpgjkalfkaaDoorCards
import Derived.Test.YtajmgpgjkalfkaaDoorTie
import Derived.JoinedCond
section
set_option linter.unusedVariables false
set_option linter.unusedSimpArgs false
namespace Go.Proofs.YtajmgpgjkalfkaaDoor
open Go.RowKit Oct Kvl

/-- The ledger behind an act. -/
def stpA (ls : List PSn) (a : PActL) : List PSn := if a.cut = true then cutL ls a.slot else (noteL ls a.kind a.x a.y a.slot a.req a.votes).1
def rnL (ys : List PActL) (n : Nat) : List PSn := (ys.take n).foldl stpA []
theorem rnL_cut {ys : List PActL} {n : Nat} {a : PActL} (h : ys[n]? = some a) (hc : a.cut = true) : rnL ys (n + 1) = cutL (rnL ys n) a.slot := by
  unfold rnL
  rw [List.take_add_one, h, List.foldl_append]
  simp [stpA, hc]
theorem rnL_note {ys : List PActL} {n : Nat} {a : PActL} (h : ys[n]? = some a) (hc : a.cut = false) : rnL ys (n + 1) = (noteL (rnL ys n) a.kind a.x a.y a.slot a.req a.votes).1 := by
  unfold rnL
  rw [List.take_add_one, h, List.foldl_append]
  simp [stpA, hc]
theorem rnL_ok {ys : List PActL} (hy : ∀ a ∈ ys, OkAL a) : ∀ n, OkL (rnL ys n)
  | 0 => by unfold rnL; exact OkL.nil
  | n + 1 => by
    have ih := rnL_ok hy n
    cases ha : ys[n]? with
    | none =>
      have hl : ys.length ≤ n := by rw [List.getElem?_eq_none_iff] at ha; exact ha
      have e : rnL ys (n + 1) = rnL ys n := by unfold rnL; rw [List.take_of_length_le (by omega), List.take_of_length_le hl]
      rw [e]
      exact ih
    | some a =>
      have hk := hy a (List.mem_of_getElem? ha)
      cases hc : a.cut with
      | true => rw [rnL_cut ha hc]; exact ih.cut _
      | false => rw [rnL_note ha hc]; exact ih.note _ _ _ _ hk.req (fun v hv => hk.vts.2 v hv)
def zAL : List Value := [.bool false, .int .i64 0, .int .i64 0, .int .i64 0, .int .i64 0, .int .i64 0, .int .i64 0, .slice none 0 0, .slice none 0 0, .slice none 0 0]
theorem one_AL {a : PActL} {o p v : Value} (h1 : o.oneCell' = true) (h2 : p.oneCell' = true) (h3 : v.oneCell' = true) : ∀ u ∈ [Value.bool a.cut, .int .i64 a.kind, .int .i64 a.x, .int .i64 a.y, .int .i64 a.slot, .int .i64 a.req.1, .int .i64 a.req.2.1, o, p, v], u.oneCell' = true := by
  intro u hu
  simp only [List.mem_cons, List.not_mem_nil, or_false] at hu
  rcases hu with rfl | rfl | rfl | rfl | rfl | rfl | rfl | rfl | rfl | rfl <;> first | rfl | assumption

set_option maxRecDepth 10000 in
set_option maxHeartbeats 8000000 in
theorem runsLg_any (W : World) (vv : Value) (ys : List PActL) (hvs : RL RActL 10 Any W vv ys) (hoks : ∀ a ∈ ys, OkAL a) (hT : Tab W) :
    Calls Tryd.prog 4 #[vv] W fun e w' => e = .returned (.bool true) ∧ Below W.heap.size W w' := by
  obtain ⟨aa, ca, rfl, _⟩ := hvs.form
  have hlv : (ys.length : Int) ≤ 9223372036854775807 := by
    by_cases h0 : 0 < ys.length
    · obtain ⟨_, _, _, _, h1, h2, _⟩ := hvs.at h0
      unfold maxLen at h2
      omega
    · omega
  go_enter Tryd.func4, Tryd.ntmps4
  go_upto_region 4 with (first
    | (go_at_call 9; refine (newG_any w5).mono ?_; rintro e w6 ⟨rfl, l6, b6⟩)
    | (go_at_call 8; refine (ledgerAlive_any W hT).mono ?_; rintro e w5 ⟨rfl, b5⟩))
  have hm5 : W.heap.size ≤ w5.heap.size := b5.size
  have BW6 := below_and b5 (Nat.le_refl _) b6
  have hT6 := (hT.below b5).below b6
  clear b5 b6
  generalize hm : w5.heap.size = m at *
  generalize hbb : m + 1 = b at *
  clear hm hbb
  go_upto_region 5 with fail
  obtain ⟨w7, hw7⟩ : ∃ w7, w7 = w6.alloc (.cells #[] 68) := ⟨_, rfl⟩
  have b7 : Below w6.heap.size w6 w7 := by rw [hw7]; exact below_alloc _ _
  have hL7 := LB.fresh (RSe W) 68 11 w6.heap.size w6 (Nat.le_refl _)
  rw [← hw7] at hL7 ⊢
  have l7 : Lg (NM m) w7 b m (rnL ys 0) := l6.below b7
  have hm6 := l6.lt.2
  have hS7 : LSe W (NM m) w7 (.slice (some ⟨w6.heap.size, 0, none⟩) 0 0) (rnL ys 0) := (hL7.rl (mov_se W)).mv (mov_se W) (Nat.le_refl _) (toNM hm6)
  have BW7 := below_and BW6 (Nat.le_refl _) b7
  have hT7 := hT6.below b7
  clear hw7 b7 hL7 l6 BW6 hT6
  by_cases hl100 : ys.length ≤ 100
  case neg =>
    have hgt : decide ((100 : Int) < (ys.length : Int)) = true := by simp; omega
    go_wp2_with fail
    go_ret
    exact ⟨rfl, BW7⟩
  have hgt : decide ((100 : Int) < (ys.length : Int)) = false := by simp; omega
  have hml7 := l7.lt
  go_wp2_with fail
  clear hgt
  go_loopw [4, 20] (fun l j wr => ∃ n : Nat, n ≤ ys.length ∧ j = .int .i64 n ∧ NNs l ∧ Lg (NM m) wr b m (rnL ys n) ∧ LSe W (NM m) wr l (rnL ys n) ∧ w7.grownBy wr (some m)) (fun _ j _ => ys.length - (intOf j).toNat)
  case atStart => exact ⟨0, by omega, rfl, ⟨_, _, _, rfl⟩, l7, hS7, grown_of_below (Below.refl _ _) _⟩
  case round =>
    clear hS7
    obtain ⟨n, hn, rfl, hnn, lr, hsr, hg⟩ := hrel
    obtain ⟨al, cl, rfl, _⟩ := RL.form hsr
    have hTr := hT7.grown hg (by intro e; exact l7.ntab hT7 e)
    have BWr := BW7.trans (grown_below hg (Nat.le_trans hm5 (Nat.le_of_lt hml7.2)) (fun q hq => by have := Option.some.inj hq; omega))
    clear hT7 l7 BW7
    by_cases hnl : n < ys.length
    case neg =>
      go_wp2_with fail
      go_ret
      exact ⟨rfl, BWr⟩
    obtain ⟨A, hA⟩ : ∃ A, ys[n]? = some A := ⟨_, List.getElem?_eq_getElem hnl⟩
    have hokA := hoks A (List.mem_of_getElem? hA)
    have hokR := rnL_ok hoks n
    obtain ⟨bv, off, cap, hve, _, _, _, hbv, hat⟩ := hvs.at (by omega)
    obtain ⟨rvv, _, hrng, o_, p_, v_, rfl, t1, t2, t3⟩ := hat n A hA
    injection hve with hv1 hv2 hv3
    subst hv1 hv3
    clear hv2 hat
    have HA := (show Hid (ys[n]? = some A) from hA)
    clear hA
    obtain ⟨ao, co, rfl, _⟩ := t1.form
    obtain ⟨ap, cp, rfl, _⟩ := t2.form
    obtain ⟨av, cv, rfl, _⟩ := t3.form
    have hrng := rangeAt_block hrng (BWr.block bv hbv)
    have hrow0 := Row.new wr 34 zAL
    have hon := one_AL (a := A) (o := .slice ao A.req.2.2.1.length co) (p := .slice ap A.req.2.2.2.length cp) (v := .slice av A.votes.length cv) rfl rfl rfl
    go_upto_region 10 with (first
      | (refine wpList_load_mid rfl _ _ rfl bv (off + n * 10) rfl [.bool A.cut, .int .i64 A.kind, .int .i64 A.x, .int .i64 A.y, .int .i64 A.slot, .int .i64 A.req.1, .int .i64 A.req.2.1, .slice ao A.req.2.2.1.length co, .slice ap A.req.2.2.2.length cp, .slice av A.votes.length cv] _ hrng Tryd.underlying34 rfl (by kernel_rfl) ?_)
      | (refine wl_store rfl _ _ _ rfl wr.heap.size [.bool A.cut, .int .i64 A.kind, .int .i64 A.x, .int .i64 A.y, .int .i64 A.slot, .int .i64 A.req.1, .int .i64 A.req.2.1, .slice ao A.req.2.2.1.length co, .slice ap A.req.2.2.2.length cp, .slice av A.votes.length cv] rfl rfl _ _ hrow0 rfl (by kernel_rfl) hon ?_; intro w8 rA g8))
    have b8 : Below wr.heap.size wr w8 := (below_alloc wr (.cells (zAL : List Value).toArray 34)).trans (grown_below g8 (by simp) (fun k hk => by cases hk; exact Nat.le_refl _))
    have rA := rA.out
    have hmrA : (some m : Option Nat) ≠ some wr.heap.size := fun e => by have := Option.some.inj e; have := lr.lt.2; omega
    obtain ⟨cA, hcA⟩ : ∃ c, c = wr.heap.size := ⟨_, rfl⟩
    rw [← hcA] at rA hmrA ⊢
    clear hrng hrow0 g8 hcA hon
    have l8 := lr.below b8
    have hs8 := hsr.below b8
    have hT8 := hTr.below b8
    have BW8 := below_and BWr (Nat.le_refl _) b8
    have hg8 := grown_trans hg (grown_of_below b8 _) (.inl rfl)
    clear lr hsr hTr BWr hg b8
    have k0 := rA.cell (j := 0) rfl
    have k4 := rA.cell (j := 4) rfl
    cases hc : A.cut with
    | true =>
      rw [hc] at k0
      have HE := (show Hid (_ = _) from rnL_cut HA.out hc)
      have HCT := cutG_any w8 b m _ l8 (fun k hk => hk) A.slot
      clear hc
      go_upto_region 12 with (go_at_call 10; refine HCT.mono ?_; rintro e w9 ⟨rfl, l9, g9⟩)
      have rA := rA.grown g9 hmrA
      have hmv9 : Mv (NM m) (NM m) w8 w9 := Mv.nm (fun k hk => hk) g9
      have hs9 := hs8.mv g9.size hmv9
      have BW9 := BW8.trans (grown_below g9 (Nat.le_trans hm5 (Nat.le_of_lt l8.lt.2)) (fun q hq => by have := Option.some.inj hq; omega))
      have HRC := refCutZ_any W w9 _ _ (hs9.mv (Nat.le_refl _) Mv.any) (Nat.le_trans hokR.len (by decide)) A.slot
      have hg9 := grown_trans hg8 g9 (.inl rfl)
      clear k0 k4 HCT hs8 l8 BW8
      have k4 := rA.cell (j := 4) rfl
      go_upto_region 24 with (go_at_call 11; refine HRC.mono ?_; rintro e wa ⟨va, rfl, hna, hsa, ba⟩; obtain ⟨a5, c5, rfl, _⟩ := RL.form hsa)
      have la := l9.below ba
      have hsa := hsa.mv (Nat.le_refl _) (toNM l9.lt.2)
      have hga := grown_trans hg9 (grown_of_below ba _) (.inl rfl)
      have HLN := lenG_any wa b m _ la
      clear k4 HRC hs9 l9 BW9
      go_wp2_with (go_at_call 17; refine HLN.mono ?_; rintro e wa ⟨rfl, rfl⟩)
      go_roundw
      case rel => exact ⟨n + 1, by omega, by go_num, hna, by rw [HE.out]; exact la, by rw [HE.out]; exact hsa, hga⟩
      case measure => simp [intOf]; omega
    | false =>
      rw [hc] at k0
      have HE := (show Hid (_ = _) from rnL_note HA.out hc)
      clear hc
      go_upto_region 13 with fail
      clear k0 k4
      have SK8 := (show Hid (∀ u, w8.grownBy u (some m) → u.cell? ⟨cA, 1, none⟩ = some (.int .i64 A.kind) ∧ u.cell? ⟨cA, 2, none⟩ = some (.int .i64 A.x) ∧ u.cell? ⟨cA, 3, none⟩ = some (.int .i64 A.y) ∧ u.cell? ⟨cA, 4, none⟩ = some (.int .i64 A.slot) ∧ u.cell? ⟨cA, 5, none⟩ = some (.int .i64 A.req.1) ∧ u.cell? ⟨cA, 6, none⟩ = some (.int .i64 A.req.2.1) ∧ u.cell? ⟨cA, 7, none⟩ = some (.slice ao A.req.2.2.1.length co) ∧ u.cell? ⟨cA, 8, none⟩ = some (.slice ap A.req.2.2.2.length cp) ∧ u.cell? ⟨cA, 9, none⟩ = some (.slice av A.votes.length cv)) from fun u hu => ⟨(rA.grown hu hmrA).cell (j := 1) rfl, (rA.grown hu hmrA).cell (j := 2) rfl, (rA.grown hu hmrA).cell (j := 3) rfl, (rA.grown hu hmrA).cell (j := 4) rfl, (rA.grown hu hmrA).cell (j := 5) rfl, (rA.grown hu hmrA).cell (j := 6) rfl, (rA.grown hu hmrA).cell (j := 7) rfl, (rA.grown hu hmrA).cell (j := 8) rfl, (rA.grown hu hmrA).cell (j := 9) rfl⟩)
      obtain ⟨q1, q2, q3, q4, q5, q6, q7, q8, q9⟩ := SK8.out w8 (grown_of_below (Below.refl _ _) _)
      have hd8 := below_drew w8
      have gd8 : w8.grownBy w8.drew (some m) := grown_of_below hd8 _
      have HCP := (show Hid (∀ _ : Unit, _) from fun _ => copyQ_any w8.drew _ _ A.req (t1.mv (Mv.below (below_and BW8 (Nat.le_refl _) hd8))) (t2.mv (Mv.below (below_and BW8 (Nat.le_refl _) hd8))) hokA.req)
      try go_simp
      go_region_held3 (fun u => u.cell? ⟨cA, 1, none⟩ = some (.int .i64 A.kind) ∧ u.cell? ⟨cA, 2, none⟩ = some (.int .i64 A.x) ∧ u.cell? ⟨cA, 3, none⟩ = some (.int .i64 A.y) ∧ u.cell? ⟨cA, 4, none⟩ = some (.int .i64 A.slot) ∧ u.cell? ⟨cA, 5, none⟩ = some (.int .i64 A.req.1) ∧ u.cell? ⟨cA, 6, none⟩ = some (.int .i64 A.req.2.1) ∧ u.cell? ⟨cA, 7, none⟩ = some (.slice ao A.req.2.2.1.length co) ∧ u.cell? ⟨cA, 8, none⟩ = some (.slice ap A.req.2.2.2.length cp) ∧ u.cell? ⟨cA, 9, none⟩ = some (.slice av A.votes.length cv))
        (first | exact SK8.out _ gx | exact SK8.out _ gd | exact SK8.out _ gc | exact SK8.out _ gd8 | go_keep)
        (first
          | (go_at_call 12; refine hN.mono ?_; rintro e wx ⟨vx, rfl, ex, lx, gx'⟩; have gx : w8.grownBy wx (some m) := grown_trans gd gx' (.inl rfl); obtain ⟨ax, cx, rfl, _⟩ := ex.form)
          | (go_at_call 14; refine (copyVotes_any wc _ A.votes (t3.mv mov_vote (below_and BW8 (Nat.le_refl _) bc).size (Mv.below (below_and BW8 (Nat.le_refl _) bc))) hokA.vts).mono ?_; rintro e wd ⟨vd, rfl, hvd, bd'⟩; have bd : Below w8.heap.size w8 wd := below_and bc (Nat.le_refl _) bd'; have gd : w8.grownBy wd (some m) := grown_of_below bd _; obtain ⟨ad, cd, rfl, _⟩ := hvd.form; have hN := noteG_any wd b m _ (l8.below bd) A.kind A.x A.y A.slot _ A.req (mov_req _ _ _ _ _ _ (mov_req _ _ _ _ _ _ qc (Nat.le_refl _) (toNM l8.lt.2)) bd'.size (Mv.belowG bd')) hokA.req _ A.votes (hvd.mv mov_vote (Nat.le_refl _) (toNM (l8.below bc).lt.2)) (fun v hv => hokA.vts.2 v hv) hokA.len (hT8.below bd))
          | (go_at_call 13; refine (HCP.out ()).mono ?_; rintro e wc ⟨ae, ce, af, cf, rfl, qc, bc'⟩; have bc : Below w8.heap.size w8 wc := hd8.trans bc'; have gc : w8.grownBy wc (some m) := grown_of_below bc _))
      have rA := rA.grown gx hmrA
      have hmvx : Mv (NM m) (NM m) w8 wx := Mv.nm (fun k hk => hk) gx
      have hsx := hs8.mv gx.size hmvx
      have BWx := BW8.trans (grown_below gx (Nat.le_trans hm5 (Nat.le_of_lt l8.lt.2)) (fun q hq => by have := Option.some.inj hq; omega))
      have hgx := grown_trans hg8 gx (.inl rfl)
      have HRN := refNoteZ_any W wx BWx _ _ (hsx.mv (Nat.le_refl _) Mv.any) hnn hokR A.kind A.x A.y A.slot _ _ A.req t1 t2 hokA.req _ A.votes t3 (fun v hv => hokA.vts.2 v hv) hokA.len
      clear SK8 HCP hN q1 q2 q3 q4 q5 q6 q7 q8 q9 gd8 hd8 gc gd gx' bc bc' bd bd' qc hvd hmvx hs8 l8 BW8 hT8 hg8 gx
      have k1 := rA.cell (j := 1) rfl
      have k2 := rA.cell (j := 2) rfl
      have k3 := rA.cell (j := 3) rfl
      have k4 := rA.cell (j := 4) rfl
      have k5 := rA.cell (j := 5) rfl
      have k6 := rA.cell (j := 6) rfl
      have k7 := rA.cell (j := 7) rfl
      have k8 := rA.cell (j := 8) rfl
      have k9 := rA.cell (j := 9) rfl

      have hDl : (noteL (rnL ys n) A.kind A.x A.y A.slot A.req A.votes).2.length ≤ 10000000 := by
        unfold noteL
        split
        · exact Nat.le_trans (noteV_len hokR _ _ _ _ hokA.req (fun v hv => hokA.vts.2 v hv)) hokA.len
        · simp
      generalize hD : noteL (rnL ys n) A.kind A.x A.y A.slot A.req A.votes = D at *
      clear hD
      go_upto_region 19 with (go_at_call 15; refine HRN.mono ?_; rintro e wy ⟨vy, oy, rfl, hny, hsy, hoy, by_⟩; obtain ⟨ay, cy, rfl, _⟩ := RL.form hsy; obtain ⟨az, cz, rfl, _⟩ := hoy.form)
      clear HRN k1 k2 k3 k4 k5 k6 k7 k8 k9
      have ly := lx.below by_
      have hsy := hsy.mv (Nat.le_refl _) (toNM lx.lt.2)
      have hgy := grown_trans hgx (grown_of_below by_ _) (.inl rfl)
      have hoy := hoy.mv (mov_me W) (Nat.le_refl _) Mv.any
      have hey := (ex.mv mov_ms by_.size (Mv.belowG by_)).mv mov_ms (Nat.le_refl _) Mv.any
      have BWy := below_and BWx (Nat.le_refl _) by_
      have hDi : (D.2.length : Int) ≤ 10000000 := by omega
      clear ex lx hgx BWx by_ hsx
      obtain ⟨wo, rfl⟩ : ∃ wo : World, wo = wr := ⟨_, rfl⟩
      try go_simp
      go_loopw [71] (fun i wr => ∃ q : Nat, q ≤ D.2.length ∧ i = .int .i64 q ∧ Below wy.heap.size wy wr) (fun i _ => D.2.length - (intOf i).toNat)
      case atStart => exact ⟨0, by omega, rfl, Below.refl _ _⟩
      case round =>
        obtain ⟨q, hq, rfl, hB⟩ := hrel
        by_cases hql : q < D.2.length
        case neg =>
          have le := ly.below hB
          have hse := hsy.below hB
          have hge := grown_trans hgy (grown_of_below hB _) (.inl rfl)
          have HLN := lenG_any wr b m _ le
          clear ly hsy hey hoy
          go_wp2_with (go_at_call 17; refine HLN.mono ?_; rintro e wr ⟨rfl, rfl⟩)
          go_roundw
          case rel => exact ⟨n + 1, by omega, by go_num, hny, by rw [HE.out]; exact le, by rw [HE.out]; exact hse, hge⟩
          case measure => simp [intOf]; omega
        obtain ⟨M, hM⟩ : ∃ M, D.2[q]? = some M := ⟨_, List.getElem?_eq_getElem hql⟩
        obtain ⟨gb, goff, gcap, ge, _, _, _, hgb, hga⟩ := hey.at (by omega)
        obtain ⟨rg, _, hrg, sg, rfl, hsg⟩ := hga q M hM
        injection ge with g1 g2 g3
        subst g1 g3
        clear g2 hga
        obtain ⟨tb, toff, tcap, te, _, _, _, htb, hta⟩ := hoy.at (by omega)
        obtain ⟨rt, _, hrt, st, rfl, hst⟩ := hta q M hM
        injection te with g1 g2 g3
        subst g1 g3
        clear g2 hta hM
        have hrg := rangeAt_block hrg (hB.block gb hgb)
        have hrt := rangeAt_block hrt (hB.block tb htb)
        have hdq := below_drew wr
        have BWq := below_and (below_and BWy (Nat.le_refl _) hB) (Nat.le_refl _) hdq
        have hgb' : gb < wr.heap.size := Nat.lt_of_lt_of_le hgb hB.size
        have htb' : tb < wr.heap.size := Nat.lt_of_lt_of_le htb hB.size
        have HSM := (show Hid (Calls Tryd.prog 16 #[.agg (mc M sg).toArray, .agg (mc M st).toArray] wr.drew fun e w' => e = .returned (.bool true) ∧ Below wr.drew.heap.size wr.drew w') from sameMsg_eq wr.drew M sg st ((hsg.mv hB.size (Mv.below hB)).mv (Nat.le_refl _) (Mv.below hdq)) (hst.mv BWq.size (Mv.below BWq)))
        have HG1 := (show Hid (∀ u, Below wr.heap.size wr u → u.rangeAt gb (goff + q * 23) (mc M sg)) from fun u hu => rangeAt_block hrg (hu.block gb hgb'))
        have HG2 := (show Hid (∀ u, Below wr.heap.size wr u → u.rangeAt tb (toff + q * 23) (mc M st)) from fun u hu => rangeAt_block hrt (hu.block tb htb'))
        have hqi : (q : Int) < (D.2.length : Int) := by omega
        clear hrg hrt hsg hst hgb htb hgb' htb' hey hoy
        go_upto_region 21 with fail
        try go_simp
        refine wp_region_held_drew (S := fun u => Below wr.heap.size wr u) (by kernel_rfl) hdq (fun hHeld => ?_)
        clear hHeld
        refine wpAnyH_take (i := 0) (v := .slice (some ⟨gb, goff, none⟩) D.2.length cx) rfl (by kernel_rfl) (by kernel_rfl) (by kernel_rfl) (fun _ _ _ h => h) (Or.inl ⟨by kernel_rfl, fun u hSu => by go_simp⟩) hdq ?_
        simp only [Act.put, List.setIfInBounds_toArray, List.set_cons_zero, List.set_cons_succ]
        refine wpAnyH_take (i := 1) (v := .int .i64 (q : Int)) rfl (by kernel_rfl) (by kernel_rfl) (by kernel_rfl) (fun _ _ _ h => h) (Or.inl ⟨by kernel_rfl, fun u hSu => by go_simp⟩) hdq ?_
        simp only [Act.put, List.setIfInBounds_toArray, List.set_cons_zero, List.set_cons_succ]
        refine wpAnyH_take (i := 2) (v := .pointer (some ⟨gb, goff + q * 23, none⟩)) rfl (by kernel_rfl) (by kernel_rfl) (by kernel_rfl) (fun _ _ _ h => h) (Or.inl ⟨by kernel_rfl, fun u hSu => by go_simp⟩) hdq ?_
        simp only [Act.put, List.setIfInBounds_toArray, List.set_cons_zero, List.set_cons_succ]
        refine wpAnyH_take (i := 3) (v := .agg (mc M sg).toArray) rfl (by kernel_rfl) (by kernel_rfl) (by kernel_rfl) (fun _ _ _ h => h) (yieldsIf_load_mid (by kernel_rfl) _ _ rfl gb (goff + q * 23) rfl (mc M sg) _ HG1.out Tryd.underlying48 rfl (by kernel_rfl)) hdq ?_
        simp only [Act.put, List.setIfInBounds_toArray, List.set_cons_zero, List.set_cons_succ]
        refine wpAnyH_take (i := 4) (v := .slice (some ⟨tb, toff, none⟩) D.2.length cz) rfl (by kernel_rfl) (by kernel_rfl) (by kernel_rfl) (fun _ _ _ h => h) (Or.inl ⟨by kernel_rfl, fun u hSu => by go_simp⟩) hdq ?_
        simp only [Act.put, List.setIfInBounds_toArray, List.set_cons_zero, List.set_cons_succ]
        refine wpAnyH_take (i := 5) (v := .int .i64 (q : Int)) rfl (by kernel_rfl) (by kernel_rfl) (by kernel_rfl) (fun _ _ _ h => h) (Or.inl ⟨by kernel_rfl, fun u hSu => by go_simp⟩) hdq ?_
        simp only [Act.put, List.setIfInBounds_toArray, List.set_cons_zero, List.set_cons_succ]
        refine wpAnyH_take (i := 6) (v := .pointer (some ⟨tb, toff + q * 23, none⟩)) rfl (by kernel_rfl) (by kernel_rfl) (by kernel_rfl) (fun _ _ _ h => h) (Or.inl ⟨by kernel_rfl, fun u hSu => by go_simp⟩) hdq ?_
        simp only [Act.put, List.setIfInBounds_toArray, List.set_cons_zero, List.set_cons_succ]
        refine wpAnyH_take (i := 7) (v := .agg (mc M st).toArray) rfl (by kernel_rfl) (by kernel_rfl) (by kernel_rfl) (fun _ _ _ h => h) (yieldsIf_load_mid (by kernel_rfl) _ _ rfl tb (toff + q * 23) rfl (mc M st) _ HG2.out Tryd.underlying48 rfl (by kernel_rfl)) hdq ?_
        simp only [Act.put, List.setIfInBounds_toArray, List.set_cons_zero, List.set_cons_succ]
        refine wpAnyH_ready (rs := [8]) (by kernel_rfl) (by simp) ?_
        refine AllReadyH.cons (o := _) rfl (fun K hK => ?_) AllReadyH.nil
        go_simp
        refine HSM.out.mono ?_
        rintro e wq ⟨rfl, bq⟩
        have bq1 : Below wr.heap.size wr wq := hdq.trans bq
        try go_simp
        refine hK.out _ _ bq1 (fun hHeld => ?_)
        clear hK K hHeld
        refine wpAnyH_ready (rs := [9]) (by kernel_rfl) (by simp) ?_
        refine AllReadyH.cons (o := _) rfl (fun K hK => ?_) AllReadyH.nil
        go_simp
        refine hK.out _ _ bq1 (fun hHeld => ?_)
        clear hK K hHeld
        refine wpAnyH_done (by kernel_rfl) ?_ _
        have hBq : Below wy.heap.size wy wq := below_and hB (Nat.le_refl _) bq1
        clear HSM HG1 HG2
        go_wp2_with fail
        go_roundw
        case rel => first | exact ⟨q + 1, by omega, by go_num, hBq⟩ | exact ⟨_, _, _, ⟨q + 1, by omega, by go_num, hBq⟩, _, _, _, _, _, _, _, _, _, _, _, _, _, rfl⟩
        case measure => simp [intOf]; omega
end Go.Proofs.YtajmgpgjkalfkaaDoor
end

section
namespace Go.Proofs.YtajmgpgjkalfkaaDoor
open Go.ChangeShapes Go.WideShapes Go.ChangeAt Go.RowKit Sha

theorem gTab : Tryd.prog.globalNamed "catenary/sha.constants" = some 1 := by kernel_rfl
theorem gTabType : (Tryd.prog.globals[1]?).map (·.type) = some 137 := by kernel_rfl
theorem cells45 : Tryd.prog.cellsOf 137 = 64 := by kernel_rfl
theorem cells34 : Tryd.prog.cellsOf 126 = 1 := by kernel_rfl
def kints : List Int := [1116352408, 1899447441, 3049323471, 3921009573, 961987163, 1508970993, 2453635748, 2870763221, 3624381080, 310598401, 607225278, 1426881987, 1925078388, 2162078206, 2614888103, 3248222580, 3835390401, 4022224774, 264347078, 604807628, 770255983, 1249150122, 1555081692, 1996064986, 2554220882, 2821834349, 2952996808, 3210313671, 3336571891, 3584528711, 113926993, 338241895, 666307205, 773529912, 1294757372, 1396182291, 1695183700, 1986661051, 2177026350, 2456956037, 2730485921, 2820302411, 3259730800, 3345764771, 3516065817, 3600352804, 4094571909, 275423344, 430227734, 506948616, 659060556, 883997877, 958139571, 1322822218, 1537002063, 1747873779, 1955562222, 2024104815, 2227730452, 2361852424, 2428436474, 2756734187, 3204031479, 3329325298]
theorem kints_at : ∀ t, t < 64 → kints.getD t 0 = wi (kk.getD t 0) := by decide +kernel
theorem tab_of {W : World} (h : laidMetH Tryd.prog [("catenary/sha.constants", Rows.laid_catenary_sha_constants)] W) : Tab W := by
  have t : Lib.TabIs Tryd.prog W "catenary/sha.constants" .u32 kints := Lib.tabIs_of_head (rest := []) gTab gTabType Tryd.underlying137 Tryd.underlying126 cells34 cells45 h
  intro j hj
  rw [t.cell gTab j hj, kints_at j hj]
/-- A world for the witness: the settled one, the table (block 0) holding what its initialiser lays. -/
noncomputable def laidWorld (os : Os) : World :=
  { World.holding Tryd.prog os ⟨#[], #[], []⟩ with heap := (World.holding Tryd.prog os ⟨#[], #[], []⟩).heap.modify 1 fun
      | .cells _ t frozen => .cells (kints.map (Value.int .u32)).toArray t frozen
      | o => o }
end Go.Proofs.YtajmgpgjkalfkaaDoor
end

section
namespace Go.Proofs.YtajmgpgjkalfkaaDoor
open Go.ChangeShapes Go.WideShapes Go.ChangeAt Go.RowKit

theorem ledgerRuns_own : ownKnob Tryd.prog.godebug = none := by kernel_rfl
theorem ledgerRuns_laidOut : laidOutB Tryd.prog = true := by kernel_rfl
theorem ledgerRuns_cells5 : Tryd.prog.cellsOf 5 = 1 := by kernel_rfl

set_option maxRecDepth 100000 in
theorem ledgerRuns_contract (H : Type) (enc : TypeId × Value → H) (W : World) (base : Nat) (args : Array Value) (ds gs : List (DataW H)) (before : List MemPlace)
    (hval : ∀ (j : Nat) t v, Tryd.f4.params[j]? = some t → args[j]? = some v → Value.okWide Tryd.prog W .any base t v)
    (hW : DataW.Whole enc Tryd.prog Tryd.f4.params.toList Rows.ledgerRunsSpec.vars false W args.toList ds gs before) (hk : Rows.uptoSmall H (ds ++ gs) = true)
    (hT : Tab W) :
    Calls Tryd.prog 4 args W fun e W' => ∃ v, e = .returned v ∧ Rows.ledgerRunsSpec.post enc Tryd.prog Tryd.f4 false true false false W args v W' := by
  have hW' := hW
  obtain ⟨p, q, hA0, hV, rfl, hfz, hnd⟩ := hW
  have hA : DataW.TrodAll enc Tryd.prog W 0 (fun _ => true) true Tryd.f4.params.toList args.toList ds p := hA0
  rw [Tryd.params4] at hA hval
  obtain ⟨v0, vs0, d0, ds0, p0, q0, hargs, rfl, rfl, h0, r0⟩ := trodAll_cons hA
  obtain ⟨rfl, rfl, rfl⟩ := trodAll_nil r0
  obtain rfl : args = #[v0] := by cases args; simp_all
  obtain ⟨rfl, rfl⟩ := trodVars_none hV
  simp only [List.append_nil] at hk
  obtain ⟨a0, len0, cap0, rfl⟩ := okWide_slice Tryd.underlying23 (hval 0 23 v0 rfl rfl)
  have lt0 : ∀ x ∈ p0, x.block < W.heap.size := by obtain ⟨m, hm⟩ := h0; exact DataW.trod_lt m _ _ _ hm
  obtain ⟨ys0, hrd0, hb0⟩ := open_actsL rfl h0
  have hlen0 := Nat.le_trans hb0 (Nat.le_trans (bulk_part (by simp)) (bulk_all hk))
  clear hA0
  refine (runsLg_any W _ ys0 hrd0 (okAL_of hlen0) hT).mono fun e W' ⟨he, bel⟩ => ?_
  subst he
  exact ⟨_, rfl, _, _, _, [], _, [], hW', trodAll_mk1 (shut_bool Tryd.underlying4 _), (trodAll_cons_mk (Below.trod ledgerRuns_laidOut (by kernel_rfl) (of_decide_eq_true (by kernel_rfl)) h0 bel lt0) trodAll_mk0), rfl, bel.frame _, fun h => by cases h⟩

theorem ledgerRuns_met (os : Os) : laidMet Tryd.prog Rows.ledgerRunsUptoRow.laid ((laidWorld os).forCall (fun _ _ => 0) ⟨#[], #[.slice none 0 0], []⟩).memory :=
  laidMet_of_run' 8 (by kernel_rfl) (by kernel_rfl)
theorem ledgerRuns_reads (os : Os) {H : Type} (enc : TypeId × Value → H) : ∃ places, DataW.whole enc Tryd.prog ((laidWorld os).forCall (fun _ _ => 0) ⟨#[], #[.slice none 0 0], []⟩).memory Tryd.f4.params.toList Rows.ledgerRunsSpec.vars false (#[.slice none 0 0] : Array Value).toList 8 = some ([.nil], [], places) :=
  ⟨[], by kernel_rfl⟩
set_option maxRecDepth 100000 in
theorem ledgerRuns_lifted (os : Os) (started : os.Started) (H : Type) (enc : TypeId × Value → H) (F : Stop.Interp) :
    ReturnsInHanded {} Tryd.checked os 4 .any ((Rows.OpenSpec.upto Rows.ledgerRunsSpec).preRow enc Tryd.prog Tryd.f4 Rows.ledgerRunsUptoRow.domain false Rows.ledgerRunsUptoRow.laid) (((Rows.OpenSpec.upto Rows.ledgerRunsSpec).at F).post enc Tryd.prog Tryd.f4 false true false false) := by
  obtain ⟨places, hx⟩ := ledgerRuns_reads os enc
  refine returnsInHanded_of_row (C := Tryd.checked) (s := (Rows.OpenSpec.upto Rows.ledgerRunsSpec)) ledgerRuns_own started (by kernel_rfl) Tryd.func4
    (witness_row_at (enc := enc) (C := Tryd.checked) false (laidWorld os) #[.slice none 0 0] rfl (by kernel_rfl) (by kernel_rfl) (by kernel_rfl)
      (OpenSpec.preRow_of_cond 8 hx (by kernel_rfl) (fun k hk => by cases hk; kernel_rfl) (by kernel_rfl) (ledgerRuns_met os))) ?_
  intro W base args ds gs before hval hW _ hcond hsz hL _ _
  exact ledgerRuns_contract H enc W base args ds gs before hval hW (hcond _ rfl) (tab_of hL)

theorem ledgerRuns_said : Rows.LedgerRunsUptoSaid :=
  OpenClaim.holds_of_cond 4 Tryd.f4 rfl rfl rfl rfl rfl rfl rfl ⟨rfl, rfl, rfl, rfl, rfl⟩ rfl rfl rfl rfl rfl (by kernel_rfl) Tryd.func4 (by kernel_rfl)
    (of_decide_eq_true (by kernel_rfl)) (by unfold Func.isWrapper; first | (rw [if_pos (by decide +kernel)]; kernel_rfl) | (rw [if_neg (by decide +kernel)]; exact ⟨rfl, rfl⟩))
    (fun os started H enc _ F => by rw [OpenClaim.pre_eq_preRow]; exact ledgerRuns_lifted os started H enc F)
theorem ledgerRuns_plain (f : FuncId) (fn : Func) (hf : Tryd.pinned.checked.prog.funcNamed "catenary/catenarylaw15.LedgerRuns" = some f) (hfn : Tryd.pinned.checked.prog.funcs[f]? = some fn) :
    false = Tryd.pinned.checked.prog.looks [] ∧ ∀ (j : Nat) t, fn.params[j]? = some t → Tryd.pinned.checked.prog.wantsStandIn t = false := by
  obtain rfl : f = 4 := Option.some.inj ((show Tryd.prog.funcNamed "catenary/catenarylaw15.LedgerRuns" = some 4 by kernel_rfl).symm.trans hf) |>.symm
  obtain rfl : fn = Tryd.f4 := (Option.some.inj (Tryd.func4.symm.trans hfn)).symm
  refine ⟨by kernel_rfl, fun j t ht => ?_⟩
  rw [Tryd.params4] at ht
  have hm := Array.mem_of_getElem? ht
  simp only [List.mem_toArray, List.mem_cons, List.not_mem_nil, or_false] at hm
  subst hm
  exact (show Tryd.prog.wantsStandIn 23 = false by kernel_rfl)
theorem ledgerRuns_proved : Rows.LedgerRunsUptoCardSaid :=
  Claim7.holds_tied_plain_at .later [] _ _ _ _ ledgerRuns_said (fun _ h => by cases h) (by kernel_rfl) (fun _ h => by cases h) ledgerRunsUpto_row_tie rfl ⟨rfl, rfl⟩ (by kernel_rfl) rfl ledgerRuns_plain (by kernel_rfl)
#print axioms ledgerRuns_proved
end Go.Proofs.YtajmgpgjkalfkaaDoor
end
