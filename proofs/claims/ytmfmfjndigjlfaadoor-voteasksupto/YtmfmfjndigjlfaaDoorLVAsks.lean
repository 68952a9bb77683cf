/- catenarylaw06.VoteAsks: its walk. -/
import Derived.Test.YtmfmfjndigjlfaaDoorQ4
import Derived.Test.YtmfmfjndigjlfaaDoorSQ
import Derived.Test.YtmfmfjndigjlfaaDoorTAlive
import Derived.Deep.Cut
set_option linter.unusedVariables false
set_option linter.unusedSimpArgs false
namespace Go.Proofs.YtmfmfjndigjlfaaDoor
open Go.RowKit Oct Sha

/-- Three requests in their boxes. -/
def Rb3 (w : World) (n m k : Nat) (a b c : List Value) : Prop := Row w n 35 a ∧ Row w m 35 b ∧ Row w k 35 c
theorem Rb3.below {w w' : World} {n m k : Nat} {a b c : List Value} (h : Rb3 w n m k a b c) (hb : Below w.heap.size w w') : Rb3 w' n m k a b c := ⟨h.1.below hb, h.2.1.below hb, h.2.2.below hb⟩
theorem asked_asked {x : PReq} : askedL (x.1, x.2.1, x.2.2.1, askS x) = decide (mayL x) := by
  have h : askS (x.1, x.2.1, x.2.2.1, askS x) = askS x := rfl
  unfold askedL
  rw [h]
  simp [mayL]

set_option maxRecDepth 10000 in
set_option maxHeartbeats 4000000 in
theorem asks_any (w : World) (r : List Value) (x : PReq) (h : RReq Any w r x) (hl1 : x.2.2.1.length ≤ 3000000) (hl2 : x.2.2.2.length ≤ 3000000) (hT : Tab w) :
    Calls Tryd.prog 4 #[.agg r.toArray] w fun e w' => e = .returned (.bool true) ∧ Below w.heap.size w w' := by
  have le := Nat.le_refl w.heap.size
  have hall := h
  have hszQ : szQ x := ⟨by unfold szT; omega, by unfold szT; omega⟩
  clear hl2
  obtain ⟨vo, vg, rfl, ho, hg⟩ := h
  obtain ⟨ao, ac, rfl, hac⟩ := ho.form
  obtain ⟨ag, gc, rfl, hgc⟩ := hg.form
  obtain ⟨w0, hw0⟩ : ∃ w0, w0 = w.alloc (.cells #[.int .i64 x.1, .int .i64 x.2.1, .slice ao x.2.2.1.length ac, .slice ag x.2.2.2.length gc] 35) := ⟨_, rfl⟩
  have x0 : Row w0 w.heap.size 35 [.int .i64 x.1, .int .i64 x.2.1, .slice ao x.2.2.1.length ac, .slice ag x.2.2.2.length gc] := by rw [hw0]; exact Row.new w 35 _
  have B0 : Below w.heap.size w w0 := by rw [hw0]; exact below_alloc _ _
  go_enter Tryd.func4, Tryd.ntmps4
  go_wp2_with fail
  rw [← hw0]
  clear hw0
  refine (alive_any w0 (hT.below B0)).mono ?_
  rintro e w1 ⟨rfl, hb1⟩
  have B1 := below_and B0 le hb1
  have x1 := x0.below hb1
  clear hb1 B0 x0
  have hC := copyReq_any w1 _ x (mov_req _ _ _ _ _ _ hall B1.size (Mv.below B1)) hszQ
  go_upto_region 4 with (first
    | (refine wl_load rfl _ _ rfl w.heap.size rfl _ _ x1 _ Tryd.underlying35 rfl (by kernel_rfl) ?_)
    | (go_at_call 12; refine hC.mono ?_; rintro e w2 ⟨r2, rfl, q2, hb2⟩; obtain ⟨o2, g2, rfl, to2, tg2⟩ := q2; have n2 := Row.new w2 35 [.int .i64 0, .int .i64 0, .slice none 0 0, .slice none 0 0])
    | (refine wl_store rfl _ _ _ rfl w2.heap.size [.int .i64 x.1, .int .i64 x.2.1, o2, g2] rfl rfl _ _ n2 rfl (by kernel_rfl) (one4 to2.one tg2.one) ?_; intro w3 hr3 hg3))
  have hb3 : Below w2.heap.size w2 w3 := (below_alloc w2 _).trans (grown_below hg3 (by simp) (fun k hk => by cases hk; exact Nat.le_refl _))
  have hb13 := below_and hb2 (Nat.le_refl _) hb3
  have B3 := below_and B1 le hb13
  have x3 := x1.below hb13
  have q3 : RReq Any w3 [.int .i64 x.1, .int .i64 x.2.1, o2, g2] x := mov_req _ _ _ _ _ _ ⟨_, _, rfl, to2, tg2⟩ hb3.size (fun k hk hlt => ⟨hb3.block k hlt, trivial⟩)
  have y3 := hr3.out
  clear hC hb2 hb3 hb13 hr3 hg3 n2 to2 tg2 B1 x1
  have hA := ask_any w3 _ x q3 hl1 (hT.below B3)
  go_upto_region 5 with (first
    | (refine wl_load rfl _ _ rfl w2.heap.size rfl _ _ y3 _ Tryd.underlying35 rfl (by kernel_rfl) ?_)
    | (go_at_call 13; refine hA.mono ?_; rintro e w4 ⟨r4, rfl, q4, hb4⟩; obtain ⟨o4, g4, rfl, to4, tg4⟩ := q4; have n4 := Row.new w4 35 [.int .i64 0, .int .i64 0, .slice none 0 0, .slice none 0 0])
    | (refine wl_store rfl _ _ _ rfl w4.heap.size [.int .i64 x.1, .int .i64 x.2.1, o4, g4] rfl rfl _ _ n4 rfl (by kernel_rfl) (one4 to4.one tg4.one) ?_; intro w5 hr5 hg5))
  have hb5 : Below w4.heap.size w4 w5 := (below_alloc w4 _).trans (grown_below hg5 (by simp) (fun k hk => by cases hk; exact Nat.le_refl _))
  have hb35 := below_and hb4 (Nat.le_refl _) hb5
  have B5 := below_and B3 le hb35
  have q5 : RReq Any w5 [.int .i64 x.1, .int .i64 x.2.1, o2, g2] x := mov_req _ _ _ _ _ _ q3 hb35.size (Mv.below hb35)
  have s5 : RReq Any w5 [.int .i64 x.1, .int .i64 x.2.1, o4, g4] (x.1, x.2.1, x.2.2.1, askS x) := mov_req _ _ _ _ _ _ ⟨_, _, rfl, to4, tg4⟩ hb5.size (Mv.below hb5)
  have z5 : Rb3 w5 w.heap.size w2.heap.size w4.heap.size [.int .i64 x.1, .int .i64 x.2.1, .slice ao x.2.2.1.length ac, .slice ag x.2.2.2.length gc] [.int .i64 x.1, .int .i64 x.2.1, o2, g2] [.int .i64 x.1, .int .i64 x.2.1, o4, g4] := ⟨x3.below hb35, y3.below hb35, hr5.out⟩
  have hr5' : RReq Any w5 [.int .i64 x.1, .int .i64 x.2.1, .slice ao x.2.2.1.length ac, .slice ag x.2.2.2.length gc] x := mov_req _ _ _ _ _ _ hall B5.size (Mv.below B5)
  have T5 := hT.below B5
  clear hA hb4 hb5 hb35 hr5 hg5 n4 to4 tg4 B3 x3 y3 q3
  obtain ⟨X, hX⟩ : ∃ X : PReq, X = (x.1, x.2.1, x.2.2.1, askS x) := ⟨_, rfl⟩
  have KR := (show Hid (∀ u, Below w5.heap.size w5 u → RReq Any u [.int .i64 x.1, .int .i64 x.2.1, .slice ao x.2.2.1.length ac, .slice ag x.2.2.2.length gc] x) from fun u hu => mov_req _ _ _ _ _ _ hr5' hu.size (Mv.below hu))
  have KO := (show Hid (∀ u, Below w5.heap.size w5 u → RReq Any u [.int .i64 x.1, .int .i64 x.2.1, o2, g2] x) from fun u hu => mov_req _ _ _ _ _ _ q5 hu.size (Mv.below hu))
  have KA := (show Hid (∀ u, Below w5.heap.size w5 u → RReq Any u [.int .i64 x.1, .int .i64 x.2.1, o4, g4] X) from fun u hu => by rw [hX]; exact mov_req _ _ _ _ _ _ s5 hu.size (Mv.below hu))
  have HRA := (show Hid (∀ u, Below w5.heap.size w5 u → Calls Tryd.prog 15 #[.agg #[.int .i64 x.1, .int .i64 x.2.1, .slice ao x.2.2.1.length ac, .slice ag x.2.2.2.length gc]] u fun e w' => ∃ r', e = .returned (.agg r'.toArray) ∧ RReq Any w' r' X ∧ Below w5.heap.size w5 w') from fun u hu => (refAsk_any u _ x (KR.out u hu) hl1).mono fun e w' ⟨r', e1, e2, e3⟩ => ⟨r', e1, by rw [hX]; exact e2, below_and hu (Nat.le_refl _) e3⟩)
  have HAT := (show Hid (∀ u, Below w5.heap.size w5 u → Calls Tryd.prog 17 #[.agg #[.int .i64 x.1, .int .i64 x.2.1, o2, g2]] u fun e w' => ∃ v', e = .returned v' ∧ Own w' 5 v' (bc (askT x)) ∧ Below u.heap.size u w' ∧ Below w5.heap.size w5 w') from fun u hu => (askText_any u _ x (KO.out u hu) hl1).mono fun e w' ⟨r', e1, e2, e3, e4⟩ => ⟨r', e1, e2, e4, below_and hu (Nat.le_refl _) e4⟩)
  have HRT := (show Hid (∀ u, Below w5.heap.size w5 u → Calls Tryd.prog 18 #[.agg #[.int .i64 x.1, .int .i64 x.2.1, .slice ao x.2.2.1.length ac, .slice ag x.2.2.2.length gc]] u fun e w' => ∃ v', e = .returned v' ∧ Own w' 5 v' (bc (askT x)) ∧ Below u.heap.size u w' ∧ Below w5.heap.size w5 w') from fun u hu => (refAskText_any u _ x (KR.out u hu) hl1).mono fun e w' ⟨r', e1, e2, e3, e4⟩ => ⟨r', e1, e2, e4, below_and hu (Nat.le_refl _) e4⟩)
  have HAK := (show Hid (∀ u, Below w5.heap.size w5 u → Calls Tryd.prog 19 #[.agg #[.int .i64 x.1, .int .i64 x.2.1, o2, g2]] u fun e w' => e = .returned (.bool (askedL x)) ∧ Below w5.heap.size w5 w') from fun u hu => (asked_any u _ x (KO.out u hu) hl1 (T5.below hu)).mono fun e w' ⟨e1, e2⟩ => ⟨e1, below_and hu (Nat.le_refl _) e2⟩)
  have HRK := (show Hid (∀ u, Below w5.heap.size w5 u → Calls Tryd.prog 20 #[.agg #[.int .i64 x.1, .int .i64 x.2.1, .slice ao x.2.2.1.length ac, .slice ag x.2.2.2.length gc]] u fun e w' => e = .returned (.bool (askedL x)) ∧ Below w5.heap.size w5 w') from fun u hu => (refAsked_any u _ x (KR.out u hu) hl1).mono fun e w' ⟨e1, e2⟩ => ⟨e1, below_and hu (Nat.le_refl _) e2⟩)
  have HSO := (show Hid (∀ u, Below w5.heap.size w5 u → Calls Tryd.prog 14 #[.agg #[.int .i64 x.1, .int .i64 x.2.1, o2, g2], .agg #[.int .i64 x.1, .int .i64 x.2.1, .slice ao x.2.2.1.length ac, .slice ag x.2.2.2.length gc]] u fun e w' => e = .returned (.bool true) ∧ Below w5.heap.size w5 w') from fun u hu => by
    have := sameReq_any u _ _ x x (KO.out u hu) (KR.out u hu)
    rw [decide_eq_true rfl] at this
    exact this.mono fun e w' ⟨e1, e2⟩ => ⟨e1, below_and hu (Nat.le_refl _) e2⟩)
  have HSA := (show Hid (∀ (u : World) (r' : List Value), Below w5.heap.size w5 u → RReq Any u r' X → Calls Tryd.prog 14 #[.agg #[.int .i64 x.1, .int .i64 x.2.1, o4, g4], .agg r'.toArray] u fun e w' => e = .returned (.bool true) ∧ Below w5.heap.size w5 w') from fun u r' hu h' => by
    have := sameReq_any u _ _ X X (KA.out u hu) h'
    rw [decide_eq_true rfl] at this
    exact this.mono fun e w' ⟨e1, e2⟩ => ⟨e1, below_and hu (Nat.le_refl _) e2⟩)
  have hKK := (show Hid (askedL X = decide (mayL x)) by show _ = _; rw [hX]; exact asked_asked)
  have HAA := (show Hid (∀ u, Below w5.heap.size w5 u → Calls Tryd.prog 19 #[.agg #[.int .i64 x.1, .int .i64 x.2.1, o4, g4]] u fun e w' => e = .returned (.bool (decide (mayL x))) ∧ Below w5.heap.size w5 w') from fun u hu => by
    have h3 : X.2.2.1.length ≤ 3000000 := by rw [hX]; exact hl1
    have := asked_any u _ X (KA.out u hu) h3 (T5.below hu)
    rw [hKK.out] at this
    exact this.mono fun e w' ⟨e1, e2⟩ => ⟨e1, below_and hu (Nat.le_refl _) e2⟩)
  have hbt : Byt (askT x) := textL_byt _ _ _ (fun t ht => by simp only [askP, List.mem_cons, List.not_mem_nil, or_false] at ht; rcases ht with rfl | rfl; exact numsL_byt _; exact ho.1.1) (by have := askP_tot hl1; have h7 : (⟨#[114, 101, 113, 117, 101, 115, 116]⟩ : ByteArray).size = 7 := rfl; omega)
  clear hX hKK s5 q5 hr5' hall ho hg
  have hne : (askedL x != askedL x) = false := by simp
  generalize askedL x = d at *
  have SK := (show Hid (∀ u, Below w5.heap.size w5 u → ((u.cell? ⟨w.heap.size, 0, none⟩ = some (.int .i64 x.1) ∧ u.cell? ⟨w.heap.size, 1, none⟩ = some (.int .i64 x.2.1) ∧ u.cell? ⟨w.heap.size, 2, none⟩ = some (.slice ao x.2.2.1.length ac) ∧ u.cell? ⟨w.heap.size, 3, none⟩ = some (.slice ag x.2.2.2.length gc)) ∧ (u.cell? ⟨w2.heap.size, 0, none⟩ = some (.int .i64 x.1) ∧ u.cell? ⟨w2.heap.size, 1, none⟩ = some (.int .i64 x.2.1) ∧ u.cell? ⟨w2.heap.size, 2, none⟩ = some o2 ∧ u.cell? ⟨w2.heap.size, 3, none⟩ = some g2) ∧ (u.cell? ⟨w4.heap.size, 0, none⟩ = some (.int .i64 x.1) ∧ u.cell? ⟨w4.heap.size, 1, none⟩ = some (.int .i64 x.2.1) ∧ u.cell? ⟨w4.heap.size, 2, none⟩ = some o4 ∧ u.cell? ⟨w4.heap.size, 3, none⟩ = some g4))) from fun u hu => by
    obtain ⟨i1, i2, i3⟩ := z5.below hu
    exact ⟨⟨i1.cell rfl, i1.cell rfl, i1.cell rfl, i1.cell rfl⟩, ⟨i2.cell rfl, i2.cell rfl, i2.cell rfl, i2.cell rfl⟩, i3.cell rfl, i3.cell rfl, i3.cell rfl, i3.cell rfl⟩)
  have hdw : Below w5.heap.size w5 w5.drew := ⟨rfl, rfl, rfl, Nat.le_refl _, fun _ _ => rfl⟩
  obtain ⟨⟨a0, a1, a2, a3⟩, ⟨b0, b1, b2, b3⟩, c0, c1, c2, c3⟩ := SK.out w5 (Below.refl _ _)
  try go_simp
  go_cut [37] from 6 (fun s37 wx => s37 = .bool false ∧ Below w5.heap.size w5 wx)
  case first =>
    go_wp2_with fail
    go_region_held3 (fun u => (u.cell? ⟨w.heap.size, 0, none⟩ = some (.int .i64 x.1) ∧ u.cell? ⟨w.heap.size, 1, none⟩ = some (.int .i64 x.2.1) ∧ u.cell? ⟨w.heap.size, 2, none⟩ = some (.slice ao x.2.2.1.length ac) ∧ u.cell? ⟨w.heap.size, 3, none⟩ = some (.slice ag x.2.2.2.length gc)) ∧ (u.cell? ⟨w2.heap.size, 0, none⟩ = some (.int .i64 x.1) ∧ u.cell? ⟨w2.heap.size, 1, none⟩ = some (.int .i64 x.2.1) ∧ u.cell? ⟨w2.heap.size, 2, none⟩ = some o2 ∧ u.cell? ⟨w2.heap.size, 3, none⟩ = some g2) ∧ (u.cell? ⟨w4.heap.size, 0, none⟩ = some (.int .i64 x.1) ∧ u.cell? ⟨w4.heap.size, 1, none⟩ = some (.int .i64 x.2.1) ∧ u.cell? ⟨w4.heap.size, 2, none⟩ = some o4 ∧ u.cell? ⟨w4.heap.size, 3, none⟩ = some g4))
      (first | exact SK.out _ (by assumption) | go_keep)
      (first
        | (go_at_call 14; have hm := hmark; refine (HSO.out _ (by first | assumption | exact Below.drew (by assumption))).mono ?_; rintro e w13 ⟨rfl, hB13⟩)
        | (go_at_call 20; refine (HRK.out _ (by first | assumption | exact Below.drew (by assumption))).mono ?_; rintro e w12 ⟨rfl, hB12⟩; have hmark := trivial)
        | (go_at_call 19; refine (HAK.out _ (by first | assumption | exact Below.drew (by assumption))).mono ?_; rintro e w11 ⟨rfl, hB11⟩)
        | (go_at_call 16; refine (same_any _ _ _ (askT x) (askT x) ((p8.rd hbt).below hb9) (p9.rd hbt)).mono ?_; rintro e w10 ⟨rfl, rfl⟩)
        | (go_at_call 18; refine (HRT.out _ (by first | assumption | exact Below.drew (by assumption))).mono ?_; rintro e w9 ⟨v9, rfl, p9, hb9, hB9⟩)
        | (go_at_call 17; refine (HAT.out _ (by first | assumption | exact Below.drew (by assumption))).mono ?_; rintro e w8 ⟨v8, rfl, p8, hb8, hB8⟩)
        | (go_at_call 14; refine (HSA.out _ _ (by first | assumption | exact Below.drew (by assumption)) q6).mono ?_; rintro e w7 ⟨rfl, hB7⟩)
        | (go_at_call 15; refine (HRA.out _ (by first | assumption | exact Below.drew (by assumption))).mono ?_; rintro e w6 ⟨r6, rfl, q6, hB6⟩))
    all_goals (
      go_wp2_with fail
      go_meet
      case rel => exact ⟨rfl, hB13⟩)
  case rest =>
    obtain ⟨rfl, hbc⟩ := hcut
    have B6 := below_and B5 le hbc
    obtain ⟨y1, y2, y3⟩ := z5.below hbc
    have c0 := y1.cell (j := 0) rfl
    have c1 := y1.cell (j := 1) rfl
    have c2 := y1.cell (j := 2) rfl
    have hAA := HAA.out wc hbc
    clear HRA HAT HRT HAK HRK HSO HSA HAA SK KR KO KA hdw a0 a1 a2 a3 b0 b1 b2 b3 c3 T5 hT y1 y2 z5
    by_cases hm : mayL x
    rotate_left
    · rw [decide_eq_false hm] at hAA
      have hc : x.1 < 1 ∨ (1 ≤ x.1 ∧ 4 < x.1) ∨ (1 ≤ x.1 ∧ x.1 ≤ 4 ∧ x.2.1 < 1) ∨ (1 ≤ x.1 ∧ x.1 ≤ 4 ∧ 1 ≤ x.2.1 ∧ 2147483647 < x.2.1) ∨ (1 ≤ x.1 ∧ x.1 ≤ 4 ∧ 1 ≤ x.2.1 ∧ x.2.1 ≤ 2147483647 ∧ (x.2.2.1.length : Int) < 1) ∨ (1 ≤ x.1 ∧ x.1 ≤ 4 ∧ 1 ≤ x.2.1 ∧ x.2.1 ≤ 2147483647 ∧ (1 : Int) ≤ x.2.2.1.length ∧ (256 : Int) < x.2.2.1.length) := by
        unfold mayL at hm
        omega
      clear hm
      rcases hc with h1 | ⟨h1, h2⟩ | ⟨h1, h2, h3⟩ | ⟨h1, h2, h3, h4⟩ | ⟨h1, h2, h3, h4, h5⟩ | ⟨h1, h2, h3, h4, h5, h6⟩
      all_goals
        try have h6' : decide ((x.2.2.1.length : Int) ≤ 256) = false := by simp; omega
        go_wp2_with (first
          | (refine wl_load rfl _ _ rfl w4.heap.size rfl _ _ y3 _ Tryd.underlying35 rfl (by kernel_rfl) ?_)
          | (go_at_call 19; refine hAA.mono ?_; rintro e w9 ⟨rfl, hb9⟩))
        go_ret
        exact ⟨rfl, below_and B5 le hb9⟩
    · rw [decide_eq_true hm] at hAA
      obtain ⟨h1, h2, h3, h4, h5, h6⟩ := hm
      have h5' : (1 : Int) ≤ x.2.2.1.length := by omega
      have h6' : (x.2.2.1.length : Int) ≤ 256 := by omega
      go_wp2_with (first
        | (refine wl_load rfl _ _ rfl w4.heap.size rfl _ _ y3 _ Tryd.underlying35 rfl (by kernel_rfl) ?_)
        | (go_at_call 19; refine hAA.mono ?_; rintro e w9 ⟨rfl, hb9⟩))
      go_ret
      exact ⟨rfl, below_and B5 le hb9⟩
end Go.Proofs.YtmfmfjndigjlfaaDoor
