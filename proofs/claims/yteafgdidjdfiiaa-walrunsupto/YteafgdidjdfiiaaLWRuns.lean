/- catenarylaw12.WalRuns: its walk. Made by mk12r.py. -/
import Derived.Test.YteafgdidjdfiiaaWAl
import Derived.Test.YteafgdidjdfiiaaWe
import Derived.Test.YteafgdidjdfiiaaWk
import Derived.Test.YteafgdidjdfiiaaTw2
import Derived.Test.YteafgdidjdfiiaaWact
import Derived.Deep.CutBlock
set_option linter.unusedVariables false
set_option linter.unusedSimpArgs false
namespace Go.Proofs.Yteafgdidjdfiiaa
open Go.RowKit Oct

theorem acts2_at {w : World} {v : Value} {ys : List PAct2} (h : RL RAct2 4 Any w v ys) (k : Nat) (y : PAct2) (hy : ys[k]? = some y) : ∃ b off cap s, v = .slice (some ⟨b, off, none⟩) ys.length cap ∧ ys.length ≤ cap ∧ cap ≤ maxLen ∧ y.2.2.1 ≤ 9223372036854775807 ∧
    ∀ w', Below w.heap.size w w' → w'.rangeAt b (off + k * 4) [.int .i64 y.1, s, .int .i64 y.2.2.1, .int .i64 y.2.2.2] ∧ Rdl w' s y.2.1 := by
  obtain ⟨b, off, cap, e, h1, h2, _, hb, h3⟩ := h.at (by have := (List.getElem?_eq_some_iff.1 hy).1; omega)
  obtain ⟨r, _, hr, s, rfl, hs, hA⟩ := h3 k y hy
  exact ⟨b, off, cap, s, e, h1, h2, hA, fun w' hw => ⟨rangeAt_block hr (hw.block b hb), hs.below hw⟩⟩
theorem Row.lgn {w : World} {g b k : Nat} {xs : List Value} (h : Row w g 72 (lgc b)) (h2 : Row w k 35 xs) : g ≠ k := h.apart h2 (by decide)
theorem opL_byts {d : PDk} (h : OkD d) : Byts (opL d) := by
  unfold opL
  split
  · exact (scn_take h.byt).2.2.1
  · exact fun x hx => by cases hx
theorem opL_len {d : PDk} (h : OkD d) : (opL d).length ≤ 1000000000 := by
  unfold opL
  split
  · have h1 := (scn_take h.byt).2.2.2
    have h2 := (scn_take h.byt).1
    have h3 := len_tot (scn d.l).1
    have h4 := h.len
    omega
  · simp
theorem below_new6 (w w' : World) (hg : (w.alloc (.cells #[.slice none 0 0, .int .i64 0, .bool false, .bool false, .int .i64 0, .int .i64 0] 35)).grownBy w' (some w.heap.size)) : Below w.heap.size w w' := (below_alloc w _).trans (grown_below hg (by simp) (fun k hk => by cases hk; exact Nat.le_refl _))

set_option maxRecDepth 10000 in
set_option maxHeartbeats 4000000 in
theorem runsW_any (w : World) (room : Int) (v1 v2 : Value) (l1 : List Int) (ys : List PAct2) (h1 : Rd w v1 l1) (h2 : RL RAct2 4 Any w v2 ys) (z1 : l1.length ≤ 1048576) (z2 : bL bAc2 ys ≤ 1048576) :
    Calls Try.prog 4 #[.int .i64 room, v1, v2] w fun e w' => e = .returned (.bool true) ∧ Below w.heap.size w w' := by
  have le := Nat.le_refl w.heap.size
  have h2A := h2
  obtain ⟨a2, c2, rfl, hc2⟩ := h2.form
  obtain ⟨N, hN⟩ : ∃ N, N = ys.length := ⟨_, rfl⟩
  have HT := (show Hid (∀ (k : Nat) (y : PAct2), ys[k]? = some y → ∃ b off cap s, Value.slice a2 N c2 = .slice (some ⟨b, off, none⟩) N cap ∧ N ≤ cap ∧ cap ≤ maxLen ∧ y.2.2.1 ≤ 9223372036854775807 ∧ tot y.2.1 ≤ 1048576 ∧
      ∀ w', Below w.heap.size w w' → w'.rangeAt b (off + k * 4) [.int .i64 y.1, s, .int .i64 y.2.2.1, .int .i64 y.2.2.2] ∧ Rdl w' s y.2.1) from fun k y hy => by
    obtain ⟨b, off, cap, s, e, e1, e2, e4, e5⟩ := acts2_at h2A k y hy
    rw [← hN] at e e1
    exact ⟨b, off, cap, s, e, e1, e2, e4, by have := bL_mem (f := bAc2) (List.mem_of_getElem? hy); unfold bAc2 at this; unfold bAc2 at z2; omega, e5⟩)
  have hNm : (N : Int) ≤ 9223372036854775807 := by
    rcases Nat.eq_zero_or_pos N with h | h
    · omega
    · obtain ⟨_, _, cap, _, e, e1, _⟩ := h2A.at (by omega)
      unfold maxLen at e1
      omega
  rw [← hN]
  have HN := (show Hid (ys.length = N) from hN.symm)
  have HX := (show Hid (l1.length ≤ 1048576 ∧ Byt l1) from ⟨z1, h1.1⟩)
  have HR1 := (show Hid (∀ w', Below w.heap.size w w' → Rd w' v1 l1) from fun w' hw => h1.below hw)
  clear hN h2 h2A hc2 z2 h1 z1
  by_cases h100 : (100 : Int) < N
  · go_enter Try.func4, Try.ntmps4
    go_wp2_with (first
      | (go_at_call 7; refine (walAlive_any w).mono ?_; rintro e w1 ⟨rfl, hb1⟩)
      | (go_at_call 11; refine (newD_any w1 room).mono ?_; rintro e w2 ⟨b, rfl, hb, hd2, hb2⟩))
    go_ret
    exact ⟨rfl, below_and hb1 le hb2⟩
  have h100' : decide ((100 : Int) < N) = false := decide_eq_false h100
  go_enter Try.func4, Try.ntmps4
  go_upto_region 6 with (first
      | (go_at_call 7; refine (walAlive_any w).mono ?_; rintro e w1 ⟨rfl, hb1⟩)
      | (go_at_call 11; refine (newD_any w1 room).mono ?_; rintro e w2 ⟨b, rfl, hb, hd2, hb2⟩))
  have hB2 := below_and hb1 le hb2
  have hbw : w.heap.size ≤ b := Nat.le_trans hb1.size hb
  have hx2 := HR1.out w2 hB2
  go_upto_region 7 with (first
    | (at_builtin; refine app_copy rfl _ _ rfl rfl _ l1 rfl hx2 (by have := HX.out; omega) ?_; intro o3 w3 ho3 hf3 hb3; have hd3 := hd2.below hb3)
    | (go_at_call 12; refine (appendD_any w3 b _ o3 _ l1 hd3 (ho3.rd HX.out.2) (fun _ => hd3.nu ho3) (fun _ q hq e => absurd hq nil_ne) (by have := HX.out; omega)).mono ?_; rintro e w4 ⟨v4, rfl, hd4, hg4, hs4⟩))
  have hB3 := below_and hB2 le hb3
  have hB4 : Below w.heap.size w w4 := hB3.trans (hg4.below hB3.size hbw (Fr.nil _))
  have hv4 : Fr w.heap.size v4 := hs4.fr (Fr.nil _) hB3.size
  have hlk4 := (Lk.nw room).ap l1
  have hok4 := (ok_nw room).rw HX.out.2 false
  generalize (apD (nwD room) l1).1 = c1 at hd4 hlk4
  obtain ⟨⟨C, F0⟩, hC⟩ : ∃ C, C = rwD (nwD room) l1 false := ⟨_, rfl⟩
  have HWr := (show Hid (∀ u, Below w.heap.size w u → Calls Try.prog 13 #[.agg (dkc (.slice none 0 0) (nwD room)).toArray, v1, .bool false] u fun e w' => ∃ vb', e = .returned (.tuple #[.agg (dkc vb' C).toArray, .int .i64 F0]) ∧ Rd w' vb' C.l ∧ (vb' = .slice none 0 0 ∨ Fr u.heap.size vb') ∧ Below u.heap.size u w') from fun u hu => by
    have := refWriteD_false u (.slice none 0 0) v1 (nwD room) l1 ((Own.nil u 5).rd (l := []) Byt.nil) (HR1.out u hu) (ok_nw room) (by have := HX.out; omega)
    rw [← hC] at this
    exact this)
  generalize (apD (nwD room) l1).2 = E4 at hlk4 ⊢
  have hlk4' := hlk4.2
  rw [← hC] at hlk4' hok4
  dsimp only at hlk4' hok4
  clear hC hlk4 hd2 hd3 hg4 hs4 hb2 hb3 ho3 hf3 hB2 hB3 hb1 hb hx2
  go_upto_region 8 with (first
    | (go_at_call 14; refine (refNewD_any w4 room).mono ?_; rintro e w5 ⟨rfl, hb5⟩)
    | (go_at_call 13; refine (HWr.out w5 (below_and hB4 le hb5)).mono ?_; rintro e w6 ⟨vw6, rfl, hrd6, hsp6, hb6⟩; have rn6 := Row.new w6 35 (dkc (.slice none 0 0) ⟨[], 0, false, false, 0, 0⟩))
    | (refine wl_store rfl _ _ _ rfl w6.heap.size (dkc vw6 C) rfl rfl _ _ rn6 rfl (by kernel_rfl) (dkc_one (rd_oneD hrd6) _) ?_; intro w7 hr7 hg7))
  have hb46 := below_and hb5 (Nat.le_refl _) hb6
  have hb67 : Below w6.heap.size w6 w7 := below_new6 w6 w7 hg7
  have hb47 := below_and hb46 (Nat.le_refl _) hb67
  have hB7 := below_and hB4 le hb47
  have hgw : w.heap.size ≤ w6.heap.size := Nat.le_trans hB4.size hb46.size
  have hfw6 : Fr w4.heap.size vw6 := by rcases hsp6 with h | h; exact fun k hk => absurd (h ▸ hk) nil_ne; exact h.mono hb5.size
  have hT7 : Two w b w6.heap.size w7 v4 vw6 c1 C := ⟨hd4.below hb47, hr7.out, hrd6.below hb67, hok4, hlk4', hv4, fun hx e => by have := hfw6 b e; have := hd4.lt; omega, fun hx e => by have := hrd6.lt hx _ e; omega, fun hx k hk e => by have := hfw6 k e; have := hd4.own.lt k hk; omega, hB7⟩
  obtain ⟨g, hg⟩ : ∃ g, g = w6.heap.size := ⟨_, rfl⟩
  rw [← hg] at hT7 hgw ⊢
  clear hb47 hb67 hB7 hfw6 hd4 hr7 hrd6 hok4 hlk4' hv4 hB4 hsp6 hb5 hb6 rn6 hg7 hb46 hg HWr
  have hO8 := openW_any w7 b _ _ hT7.dsk
  have hlk := hT7.lk.op
  have hokr := hT7.ok.ro'
  have HOb := (show Hid (Byts (opL c1) ∧ (opL c1).length ≤ 1000000000) from ⟨opL_byts hT7.dsk.ok, opL_len hT7.dsk.ok⟩)
  have hO9 := fun (u : World) (h : Rd u vw6 C.l) => refOpenW_any u vw6 C h hT7.ok
  obtain ⟨⟨D, E⟩, hT⟩ : ∃ T, T = opT c1 := ⟨_, rfl⟩
  obtain ⟨⟨R, F⟩, hR⟩ : ∃ T, T = roT C := ⟨_, rfl⟩
  obtain ⟨L, hL⟩ : ∃ L, L = opL c1 := ⟨_, rfl⟩
  rw [← hT] at hO8 hlk
  rw [← hR] at hokr hlk hO9
  rw [← hL] at hO8 HOb hlk
  rw [← hlk.2.2] at hO9
  obtain rfl : E = F := hlk.1
  have HO9 := (show Hid (∀ (u : World), Rd u vw6 C.l → Calls Try.prog 16 #[.agg (dkc vw6 C).toArray] u (RoP u vw6 (R, E) L)) from hO9)
  have hlk' : Lk D R := hlk.2.1
  have HO8 := (show Hid (∀ _ : Unit, _) from fun _ => hO8)
  dsimp only at hokr
  clear hT hR hL hlk hO9 hO8
  go_upto_region 9 with (go_at_call 15; refine (HO8.out ()).mono ?_; rintro e w8 ⟨v8, m8, o8, us8, rfl, hd8, hG8, hS8, hm8, hn8, ho8, he8, hf8, ha8⟩)
  have rg8 := hG8.row hT7.row (Ne.symm hT7.ne) hT7.ng
  have hrd8 := hG8.rd hT7.rd hT7.ab hT7.ad
  try dsimp only at hd8 hm8 hn8
  go_upto_region 10 with (first
    | (refine wl_load rfl _ _ rfl g rfl _ _ rg8 _ Try.underlying35 rfl (by kernel_rfl) ?_)
    | (go_at_call 16; refine (HO9.out w8 hrd8).mono ?_; rintro e w9 ⟨vw9, q9, us9, rfl, hrd9, hsp9, ho9, he9, hf9, hb9⟩; have rg9 := rg8.below hb9)
    | (refine wl_store rfl _ _ _ rfl g (dkc vw9 R) rfl rfl _ _ rg9 rfl (by kernel_rfl) (dkc_one (rd_oneD hrd9) _) ?_; intro w10 hr10 hg10))
  have hT10 := hT7.go hbw hgw hd8 hG8 hS8 hb9 hrd9 hsp9 hg10 hr10.out hokr hlk'
  have ho10 : Own w10 22 o8 us8 := (ho8.below hb9).grown hg10 (fun k hk e => by cases hk; exact own_row_nD rg9 (ho8.below hb9) (by decide) e)
  have he10 : Els w10 us8 L := All2.mono (fun c l h => Own.grown h hg10 (fun k hk e => by cases hk; exact own_row_nD rg9 h (by decide) e)) (he8.below hb9)
  have hq10 : Own w10 22 q9 us9 := ho9.grown hg10 (fun k hk e => by cases hk; exact own_row_nD rg9 ho9 (by decide) e)
  have hp10 : Els w10 us9 L := All2.mono (fun c l h => Own.grown h hg10 (fun k hk e => by cases hk; exact own_row_nD rg9 h (by decide) e)) he9
  have HRL := (show Hid (∀ gl, Row w8 gl 72 (lgc b) → Row w10 gl 72 (lgc b)) from fun gl h => ((h.below hb9).grown hg10 (fun e => by cases e; exact (h.below hb9).lgn rg9 rfl)))
  have hSa := sameList_any w10 o8 q9 L L (he10.rdl ho10 HOb.out.1) (hp10.rdl hq10 HOb.out.1) HOb.out.2
  rw [decide_eq_true rfl] at hSa
  have HSa := (show Hid (∀ _ : Unit, _) from fun _ => hSa)
  have hEE : (E != E) = false := by simp
  have hEE' : (E == E) = true := by simp
  clear hSa ho10 he10 hq10 hp10 ho8 he8 hf8 ha8 ho9 he9 hf9 hb9 rg9 rg8 hrd8 hd8 hG8 hS8 hrd9 hsp9 hg10 hr10 hokr hlk' hT7 HO9 HO8 HOb
  by_cases hE0 : E = 0
  case neg =>
    obtain rfl := hn8 hE0
    have hE1 : (E != 0) = true := by simpa using hE0
    go_wp2_with (go_at_call 10; refine (HSa.out ()).mono ?_; rintro e w11 ⟨rfl, hb11⟩)
    go_ret
    exact ⟨rfl, below_and hT10.bel le hb11⟩
  subst hE0
  obtain ⟨gl, rfl, _, hrl8⟩ := hm8 rfl
  have hrl10 := HRL.out gl hrl8
  clear hm8 hn8 HRL hrl8
  go_upto_region 12 with (go_at_call 10; refine (HSa.out ()).mono ?_; rintro e w11 ⟨rfl, hb11⟩)
  have hT11 := hT10.below hb11
  have hrl11 := hrl10.below hb11
  clear hT10 hrl10 hb11 HSa
  try go_simp
  go_wp2_with fail
  go_loopw [10, 88] (fun s10 i wr => ∃ (k gl : Nat) (vd vw : Value) (c r : PDk), k ≤ N ∧ i = .int .i64 k ∧ s10 = .pointer (some ⟨gl, 0, none⟩) ∧ Row wr gl 72 (lgc b) ∧ Two w b g wr vd vw c r) (fun _ i _ => N - (intOf i).toNat)
  case atStart => exact ⟨0, gl, _, _, _, _, by omega, rfl, rfl, hrl11, hT11⟩
  case round =>
    clear hT11 hrl11
    obtain ⟨k, gl, vd, vw, c, r, hk, rfl, rfl, hrl, hT⟩ := hrel
    by_cases hkl : k < N
    · obtain ⟨y, hy⟩ : ∃ y, ys[k]? = some y := ⟨_, List.getElem?_eq_getElem (by have := HN.out; omega)⟩
      obtain ⟨tb, tof, tc, s, et, ht1, ht2, hyA, hxl, htx⟩ := HT.out k y hy
      injection et with et1 _ et3
      subst et1 et3
      have hki : (k : Int) < (N : Int) := by omega
      have hrng := (htx wr hT.bel).1
      have HR := (show Hid (∀ w', Below w.heap.size w w' → Rdl w' s y.2.1) from fun w' hw => (htx w' hw).2)
      obtain ⟨kd, xs, A, T⟩ := y
      simp only at hyA hxl hrng HR
      obtain ⟨as', cs', hs, hs1, hs2⟩ := rdl_form (HR.out wr hT.bel)
      obtain ⟨X, hX⟩ : ∃ X, X = xs.length := ⟨_, rfl⟩
      rw [← hX] at hs
      have HXL := (show Hid (xs.length = X) from hX.symm)
      have HXT := (show Hid (tot xs ≤ 1048576) from hxl)
      have hXb : (X : Int) ≤ 1048576 := by have := len_tot xs; omega
      clear hy htx hX hxl hs1 hs2
      subst hs
      have hone : ∀ u ∈ [Value.int .i64 kd, .slice as' X cs', .int .i64 A, .int .i64 T], u.oneCell' = true := by
        intro u hu
        simp only [List.mem_cons, List.not_mem_nil, or_false] at hu
        rcases hu with rfl | rfl | rfl | rfl <;> rfl
      have hrow := Row.new wr 45 [.int .i64 0, .slice none 0 0, .int .i64 0, .int .i64 0]
      go_upto_region 16 with (first
        | (refine wpList_load_mid rfl _ _ rfl tb (tof + k * 4) rfl [.int .i64 kd, .slice as' X cs', .int .i64 A, .int .i64 T] _ hrng Try.underlying45 rfl (by kernel_rfl) ?_)
        | (refine wl_store rfl _ _ _ rfl wr.heap.size [.int .i64 kd, .slice as' X cs', .int .i64 A, .int .i64 T] rfl rfl _ _ hrow rfl (by kernel_rfl) hone ?_; intro w5 hr5 hg5))
      have hb5 : Below wr.heap.size wr w5 := (below_alloc wr (.cells ([.int .i64 0, .slice none 0 0, .int .i64 0, .int .i64 0] : List Value).toArray 45)).trans (grown_below hg5 (by simp) (fun k hk => by cases hk; exact Nat.le_refl _))
      have hT5 := hT.below hb5
      have hrl5 := hrl.below hb5
      have ra5 := hr5.out
      obtain ⟨ga, hga⟩ : ∃ ga, ga = wr.heap.size := ⟨_, rfl⟩
      rw [← hga] at ra5 ⊢
      have hgab : w.heap.size ≤ ga := by have := hT.bel.size; omega
      clear hrng hone hrow hg5 hr5 hb5 hT hga hrl
      have c50 := ra5.cell (j := 0) rfl
      have c51 := ra5.cell (j := 1) rfl
      have c52 := ra5.cell (j := 2) rfl
      have c53 := ra5.cell (j := 3) rfl
      have hgab' : ga ≠ b := Ne.symm (hT5.dsk.row.apart ra5 (by decide))
      have hvga : vd.ownBlock ≠ some ga := own_row_nD ra5 hT5.dsk.own (by decide)
      have HVW := (show Hid (∃ a n c, vw = .slice a n c) from by obtain ⟨aw, cw, hvw, _⟩ := hT5.rd.form; exact ⟨_, _, _, hvw⟩)
      go_upto_block 2 with fail
      go_cut [10, 17, 18] from 94 to 195 (fun s10 s17 s18 wx => ∃ (E : Int) (gl' : Nat) (vd' vw' : Value) (c' r' : PDk), s10 = .pointer (some ⟨gl', 0, none⟩) ∧ s17 = .int .i64 E ∧ s18 = .int .i64 E ∧ Row wx gl' 72 (lgc b) ∧ Two w b g wx vd' vw' c' r')
      case first =>
        by_cases k0 : kd = 0
        · subst k0
          by_cases hX0 : X = 0
          · subst hX0
            go_wp2_with fail
            go_roundw
            case rel => exact ⟨k + 1, gl, _, _, _, _, by omega, by go_num, rfl, hrl5, hT5⟩
            case measure => simp [intOf]; omega
          · obtain ⟨x, hx0⟩ : ∃ x, xs[0]? = some x := ⟨_, List.getElem?_eq_getElem (by have := HXL.out; omega)⟩
            obtain ⟨b0, off0, cap0, u0, e0, q1, q2, q3⟩ := rdl_at (HR.out w (Below.refl _ _)) 0 x hx0
            rw [HXL.out] at e0 q1
            injection e0 with e1 _ e3
            subst e1 e3
            have hxlen : x.length ≤ 1048576 := by have := mem_tot (List.mem_of_getElem? hx0); have := HXT.out; omega
            have hX1 : (0 : Int) < (X : Int) := by omega
            have hX2 : 0 < X := by omega
            have hXn : ((X : Int) == 0) = false := by simp; omega
            obtain ⟨au, cu, hu, _⟩ := (q3 w (Below.refl _ _)).2.form
            obtain ⟨Y, hY⟩ : ∃ Y, Y = x.length := ⟨_, rfl⟩
            rw [← hY] at hu
            subst hu
            have Q3 := (show Hid (∀ w', Below w.heap.size w w' → w'.cell? ⟨b0, off0, none⟩ = some (.slice au Y cu) ∧ Rd w' (.slice au Y cu) x) from fun w' hw => by have := q3 w' hw; rw [Nat.add_zero] at this; exact this)
            have HXN := (show Hid (x.length ≤ 1048576) from hxlen)
            have hxB : Byt x := (Q3.out w (Below.refl _ _)).2.1
            have hal5 := below_alloc w5 (.cells #[] 5)
            have c5a := (rowA ra5 (.cells #[] 5)).cell (j := 1) rfl
            have c5b := (Q3.out _ (below_and hT5.bel le hal5)).1
            have hx5 := (Q3.out w5 hT5.bel).2
            have hap := hT5.lk.ap (frm x)
            have hok := hT5.ok.rw (frm_byt hxB (by omega)) false
            have hadd := fun (u : World) (o : Value) (hu : Below w5.heap.size w5 u) (ho : Own u 5 o (bc x)) => addW_any u gl b vd o c x (hrl5.below hu) (hT5.below hu).dsk (ho.rd hxB) (by omega)
            obtain ⟨aw, nw, cw, hvw⟩ := HVW.out
            have hrad := fun (u : World) (hu : Below w.heap.size w u) (h : Rd u vw r.l) => refAddW_any u vw (.slice au Y cu) r x h (Q3.out u hu).2 hT5.ok (by omega)
            obtain ⟨⟨D, E⟩, hD⟩ : ∃ Q, Q = apD c (frm x) := ⟨_, rfl⟩
            obtain ⟨⟨⟨l', r', de', du', wr', te'⟩, F⟩, hR⟩ : ∃ Q, Q = rwD r (frm x) false := ⟨_, rfl⟩
            rw [← hD, ← hR] at hap
            rw [← hR] at hok
            simp only [← hR] at hrad
            simp only [← hD] at hadd
            obtain rfl : E = F := hap.1
            have hlk' := hap.2
            have HAd := (show Hid (∀ (u : World) (o : Value), Below w5.heap.size w5 u → Own u 5 o (bc x) → Calls Try.prog 17 #[.pointer (some ⟨gl, 0, none⟩), o] u fun e w' => ∃ v', e = .returned (.int .i64 E) ∧ Dsk w' b v' D ∧ Gr2 u w' b vd ∧ Spt u vd v') from hadd)
            have HRA := (show Hid (∀ (u : World), Below w.heap.size w u → Rd u vw r.l → Calls Try.prog 18 #[.agg #[.slice aw nw cw, .int .i64 r.room, .bool r.dead, .bool r.due, .int .i64 r.wr, .int .i64 r.te], .slice au Y cu] u fun e w' => ∃ a' n' c', e = .returned (.tuple #[.agg #[.slice a' n' c', .int .i64 r', .bool de', .bool du', .int .i64 wr', .int .i64 te'], .int .i64 E]) ∧ Rd w' (.slice a' n' c') l' ∧ (Value.slice a' n' c' = vw ∨ Fr u.heap.size (.slice a' n' c')) ∧ Below u.heap.size u w') from fun u hu h => by
              have := hrad u hu h
              rw [hvw] at this
              refine this.mono ?_
              rintro e w' ⟨v', e1, e2, e3, e4⟩
              obtain ⟨a', c', rfl, _⟩ := e2.form
              rw [hvw]
              exact ⟨a', _, c', e1, e2, e3, e4⟩)
            have HVQ := (show Hid (vw = .slice aw nw cw) from hvw)
            clear hD hR hap hadd hrad q3 hx0 hxlen hY hvw q1 q2
            go_upto_region 20 with (first
              | (at_builtin; refine app_copy rfl _ _ rfl rfl _ x rfl hx5 (by have := HXN.out; omega) ?_; intro o6 w6 ho6 hf6 hb6)
              | (go_at_call 17; refine (HAd.out w6 o6 hb6 ho6).mono ?_; rintro e w7 ⟨vd7, rfl, hd7, hG7, hS7⟩))
            have hT6 := hT5.below hb6
            have ra6 := ra5.below hb6
            have hrl6 := hrl5.below hb6
            have rg7 := hG7.row hT6.row (Ne.symm hT6.ne) hT6.ng
            have ra7 := hG7.row ra6 hgab' hvga
            have hrd7 := hG7.rd hT6.rd hT6.ab hT6.ad
            have hB7 : Below w.heap.size w w7 := hT6.bel.trans (hG7.below hT6.bel.size hbw hT6.fd)
            have hrl7 := hG7.lg hT6.dsk hrl6
            have rg7' := rg7
            rw [HVQ.out] at rg7
            have RG := (show Hid (∀ u, Below w7.heap.size w7 u → Row u g 35 (dkc (.slice aw nw cw) r) ∧ Row u ga 45 [.int .i64 0, .slice (some ⟨b0, off0, none⟩) X cs', .int .i64 A, .int .i64 T] ∧ u.cell? ⟨b0, off0, none⟩ = some (.slice au Y cu) ∧ Rd u vw r.l) from fun u hu => ⟨rg7.below hu, ra7.below hu, (Q3.out u (below_and hB7 le hu)).1, hrd7.below hu⟩)
            have e1 := ra7.cell (j := 1) rfl
            have hq7 := (Q3.out w7 hB7).1
            have c0 := rg7.cell (j := 0) rfl; have c1 := rg7.cell (j := 1) rfl; have c2 := rg7.cell (j := 2) rfl; have c3 := rg7.cell (j := 3) rfl; have c4 := rg7.cell (j := 4) rfl; have c5 := rg7.cell (j := 5) rfl
            clear ho6 hf6 HAd c5a c5b hx5 hal5
            go_cut [19, 20] from 108 to 116 (fun s19 s20 wx => ∃ (g9 n' c' : Nat) (a' : Option Addr), s19 = .pointer (some ⟨g9, 0, none⟩) ∧ s20 = .int .i64 E ∧ w7.heap.size ≤ g9 ∧ Row wx g9 35 [.slice a' n' c', .int .i64 r', .bool de', .bool du', .int .i64 wr', .int .i64 te'] ∧ Rd wx (.slice a' n' c') l' ∧ (Value.slice a' n' c' = vw ∨ Fr w7.heap.size (.slice a' n' c')) ∧ Below w7.heap.size w7 wx)
            case first =>
              have hdw : Below w7.heap.size w7 w7.drew := ⟨rfl, rfl, rfl, Nat.le_refl _, fun _ _ => rfl⟩
              have hal := below_alloc w7 (.cells #[.slice none 0 0, .int .i64 0, .bool false, .bool false, .int .i64 0, .int .i64 0] 35)
              have hB7a : Below w7.heap.size w7 (w7.alloc (.cells #[.slice none 0 0, .int .i64 0, .bool false, .bool false, .int .i64 0, .int .i64 0] 35)).drew := hal.drew
              obtain ⟨rgA, raA, qA, _⟩ := RG.out _ hal
              have d0 := rgA.cell (j := 0) rfl; have d1 := rgA.cell (j := 1) rfl; have d2 := rgA.cell (j := 2) rfl; have d3 := rgA.cell (j := 3) rfl; have d4 := rgA.cell (j := 4) rfl; have d5 := rgA.cell (j := 5) rfl
              have eA := raA.cell (j := 1) rfl
              have rnew : Row (w7.alloc (.cells #[.slice none 0 0, .int .i64 0, .bool false, .bool false, .int .i64 0, .int .i64 0] 35)).drew w7.heap.size 35 [.slice none 0 0, .int .i64 0, .bool false, .bool false, .int .i64 0, .int .i64 0] := (Row.new w7 35 [.slice none 0 0, .int .i64 0, .bool false, .bool false, .int .i64 0, .int .i64 0]).drew
              go_region_law (first
                | (go_simp; go_at_call 18; with_reducible refine (HRA.out w7.drew (below_and hB7 le hdw) (RG.out _ hdw).2.2.2).mono ?_; rintro e w8 ⟨a4, n4, k4, rfl, hr4, hs4, hB4⟩; have hB78 := below_and hdw (Nat.le_refl _) hB4)
                | (go_simp; go_at_call 18; with_reducible refine (HRA.out (w7.alloc (.cells #[.slice none 0 0, .int .i64 0, .bool false, .bool false, .int .i64 0, .int .i64 0] 35)).drew (below_and hB7 le hB7a) (RG.out _ hB7a).2.2.2).mono ?_; rintro e w8 ⟨a4, n4, k4, rfl, hr4, hs4, hB4⟩; have hB78 := below_and hB7a (Nat.le_refl _) hB4; have rr4 := rnew.below hB4; have f0 := rr4.cell (j := 0) rfl; have f1 := rr4.cell (j := 1) rfl; have f2 := rr4.cell (j := 2) rfl; have f3 := rr4.cell (j := 3) rfl; have f4 := rr4.cell (j := 4) rfl; have f5 := rr4.cell (j := 5) rfl; have z0 := rr4.frozen 0; have z1 := rr4.frozen 1; have z2 := rr4.frozen 2; have z3 := rr4.frozen 3; have z4 := rr4.frozen 4; have z5 := rr4.frozen 5))
              all_goals first
                | (
                  obtain ⟨u9, e9, hr9, hg9⟩ := set6 rr4 (.slice a4 n4 k4) (.int .i64 r') (.bool de') (.bool du') (.int .i64 wr') (.int .i64 te')
                  rw [← e9]
                  clear e9
                  go_wp2_with fail
                  go_meet
                  have hs78 : Value.slice a4 n4 k4 = vw ∨ Fr (w7.heap.size + 1) (.slice a4 n4 k4) := hs4.imp id (fun h => h.mono (by simp))
                  have hrd9 : Rd u9 (.slice a4 n4 k4) l' := hr4.grown hg9 (fun hne k hk e => by
                    cases hk
                    rcases hs78 with h | h
                    · rw [h] at e hr4
                      have h1 := hr4.same_lenW hrd7
                      have := hrd7.lt (fun e2 => hne (by rw [e2] at h1; exact List.eq_nil_of_length_eq_zero (by simpa using h1))) _ e
                      omega
                    · have := h _ e
                      omega)
                  exact ⟨w7.heap.size, n4, k4, a4, rfl, rfl, Nat.le_refl _, hr9, hrd9, hs78.imp id (fun h => h.mono (by omega)), hB78.trans (grown_below hg9 hB78.size (fun k hk => by cases hk; omega))⟩)
                | (
                  go_wp2_with fail
                  go_meet
                  have hal4 := below_alloc w8 (.cells ([.slice a4 n4 k4, .int .i64 r', .bool de', .bool du', .int .i64 wr', .int .i64 te'] : List Value).toArray 35)
                  exact ⟨w8.heap.size, n4, k4, a4, rfl, rfl, hB78.size, Row.new w8 35 [.slice a4 n4 k4, .int .i64 r', .bool de', .bool du', .int .i64 wr', .int .i64 te'], hr4.below hal4, hs4, below_and hB78 (Nat.le_refl _) hal4⟩)
            case rest =>
              obtain ⟨g9, n', c', a', rfl, rfl, hg9, hr9, hrd9, hsp9, hb9⟩ := hcut
              have rg9 := rg7.below hb9
              have hrl9 := hrl7.below hb9
              have hne9 : g9 ≠ g := by have := rg7.lt; omega
              go_wp2_with (first
                | (refine wl_load rfl _ _ rfl g9 rfl _ _ hr9 _ Try.underlying35 rfl (by kernel_rfl) ?_)
                | (refine wl_store rfl _ _ _ rfl g [.slice a' n' c', .int .i64 r', .bool de', .bool du', .int .i64 wr', .int .i64 te'] rfl rfl _ _ rg9 rfl (by kernel_rfl) (dkc_one (v := .slice a' n' c') rfl ⟨l', r', de', du', wr', te'⟩) ?_; intro w10 hr10 hg10))
              go_meet
              exact ⟨E, gl, _, _, _, _, rfl, rfl, rfl, hrl9.grown hg10 (fun e => by cases e; exact hrl9.lgn rg9 rfl), hT6.go hbw hgw hd7 hG7 hS7 hb9 (r' := ⟨l', r', de', du', wr', te'⟩) hrd9 hsp9 hg10 hr10.out hok hlk'⟩
        have hk0 : (kd == 0) = false := by simp [k0]
        by_cases k1 : kd = 1
        · subst k1
          have hre := hT5.lk.re (packL xs)
          have hbx : Byts xs := (HR.out w (Below.refl _ _)).byts
          have hok := hT5.ok.rw (packL_byt hbx (by have := HXT.out; omega)) true
          have hcc := fun (u : World) (o : Value) (us : List Value) (hu : Below w5.heap.size w5 u) (ho : Own u 22 o us) (he : Els u us xs) => compactW_any u gl b vd o c xs (hrl5.below hu) (hT5.below hu).dsk (he.rdl ho hbx) (by have := HXT.out; omega)
          have hrc := fun (u : World) (hu : Below w.heap.size w u) (h : Rd u vw r.l) => refCompactW_any u vw (.slice as' X cs') r xs h (HR.out u hu) hT5.ok (by have := HXT.out; omega)
          obtain ⟨⟨D, E⟩, hD⟩ : ∃ Q, Q = reD c (packL xs) := ⟨_, rfl⟩
          obtain ⟨⟨R, F⟩, hR⟩ : ∃ Q, Q = rwD r (packL xs) true := ⟨_, rfl⟩
          rw [← hD, ← hR] at hre
          rw [← hR] at hok hrc
          rw [← hD] at hcc
          obtain rfl : E = F := hre.1
          have hlk' : Lk D R := hre.2
          have HC := (show Hid (∀ _ : Unit, _) from fun _ => copy_any w5 (.slice as' X cs') xs (HR.out w5 hT5.bel) (by have := HXT.out; omega))
          have HCo := (show Hid (∀ (u : World) (o : Value) (us : List Value), Below w5.heap.size w5 u → Own u 22 o us → Els u us xs → Calls Try.prog 19 #[.pointer (some ⟨gl, 0, none⟩), o] u fun e w' => ∃ v', e = .returned (.int .i64 E) ∧ Dsk w' b v' D ∧ Gr2 u w' b vd ∧ Spt u vd v') from hcc)
          have HRC := (show Hid (∀ (u : World), Below w.heap.size w u → Rd u vw r.l → Calls Try.prog 21 #[.agg (dkc vw r).toArray, .slice as' X cs'] u fun e w' => ∃ vb', e = .returned (.tuple #[.agg (dkc vb' R).toArray, .int .i64 E]) ∧ Rd w' vb' R.l ∧ (vb' = vw ∨ Fr u.heap.size vb') ∧ Below u.heap.size u w') from hrc)
          try dsimp only at hok
          clear hD hR hre hcc hrc
          go_upto_region 25 with (first
            | (go_at_call 20; refine (HC.out ()).mono ?_; rintro e w6 ⟨o6, us6, rfl, ho6, he6, hf6, hb6⟩)
            | (go_at_call 19; refine (HCo.out w6 o6 us6 hb6 ho6 he6).mono ?_; rintro e w7 ⟨vd7, rfl, hd7, hG7, hS7⟩))
          have hT6 := hT5.below hb6
          have ra6 := ra5.below hb6
          have hrl6 := hrl5.below hb6
          have rg7 := hG7.row hT6.row (Ne.symm hT6.ne) hT6.ng
          have ra7 := hG7.row ra6 hgab' hvga
          have e1 := ra7.cell (j := 1) rfl
          have hrd7 := hG7.rd hT6.rd hT6.ab hT6.ad
          have hB7 : Below w.heap.size w w7 := hT6.bel.trans (hG7.below hT6.bel.size hbw hT6.fd)
          have hrl7 := hG7.lg hT6.dsk hrl6
          clear ho6 he6 hf6 HC HCo
          go_wp2_with (first
            | (refine wl_load rfl _ _ rfl g rfl _ _ rg7 _ Try.underlying35 rfl (by kernel_rfl) ?_)
            | (go_at_call 21; refine (HRC.out w7 hB7 hrd7).mono ?_; rintro e w8 ⟨vw8, rfl, hrd8, hsp8, hb8⟩; have rn8 := Row.new w8 35 (dkc (.slice none 0 0) ⟨[], 0, false, false, 0, 0⟩); have rg8 := rg7.below hb8)
            | (refine wl_store rfl _ _ _ rfl w8.heap.size (dkc vw8 R) rfl rfl _ _ rn8 rfl (by kernel_rfl) (dkc_one (rd_oneD hrd8) _) ?_; intro w9 hr9 hg9; have rg9 := (rowA rg8 _).grown hg9 (by have := rg8.lt; simp; omega))
            | (refine wl_load rfl _ _ rfl w8.heap.size rfl _ _ hr9.out _ Try.underlying35 rfl (by kernel_rfl) ?_)
            | (refine wl_store rfl _ _ _ rfl g (dkc vw8 R) rfl rfl _ _ rg9 rfl (by kernel_rfl) (dkc_one (rd_oneD hrd8) _) ?_; intro w10 hr10 hg10))
          go_meet
          have hb89 := below_new6 w8 w9 hg9
          have hb79 := below_and hb8 (Nat.le_refl _) hb89
          have hrd9 := hrd8.below hb89
          have hrl9 := hrl7.below hb79
          exact ⟨E, gl, _, _, _, _, rfl, rfl, rfl, hrl9.grown hg10 (fun e => by cases e; exact hrl9.lgn rg9 rfl), hT6.go hbw hgw hd7 hG7 hS7 hb79 hrd9 hsp8 hg10 hr10.out hok hlk'⟩
        have hk1 : (kd == 1) = false := by simp [k1]
        by_cases k2 : kd = 2
        · subst k2
          go_upto_region 30 with (go_at_call 22; refine (break_any w5 b _ _ A T hT5.dsk hyA).mono ?_; rintro e w7 ⟨rfl, hd7, hg7⟩)
          have hG7 : Gr2 w5 w7 b vd := Gr2.of hg7
          have rg7 := hG7.row hT5.row (Ne.symm hT5.ne) hT5.ng
          have ra7 := hG7.row ra5 hgab' hvga
          have e2 := ra7.cell (j := 2) rfl
          have e3 := ra7.cell (j := 3) rfl
          have hrd7 := hG7.rd hT5.rd hT5.ab hT5.ad
          have hrl7 := hG7.lg hT5.dsk hrl5
          go_wp2_with (first
            | (refine wl_load rfl _ _ rfl g rfl _ _ rg7 _ Try.underlying35 rfl (by kernel_rfl) ?_)
            | (go_at_call 23; refine (refBreakD_any w7 vw r A T (rd_oneD hT5.rd)).mono ?_; rintro e w8 ⟨rfl, hb8⟩; have rg8 := rg7.below hb8)
            | (refine wl_store rfl _ _ _ rfl g (dkc vw (bkD r A T)) rfl rfl _ _ rg8 rfl (by kernel_rfl) (dkc_one (rd_oneD hT5.rd) _) ?_; intro w9 hr9 hg9))
          go_meet
          have hrd8 : Rd w8 vw (bkD r A T).l := hrd7.below hb8
          exact ⟨0, gl, _, _, _, _, rfl, rfl, rfl, (hrl7.below hb8).grown hg9 (fun e => by cases e; exact (hrl7.below hb8).lgn rg8 rfl), hT5.go hbw hgw hd7 hG7 (.inl rfl) hb8 hrd8 (.inl rfl) hg9 hr9.out (hT5.ok.bk hyA T) (hT5.lk.bk A T)⟩
        have hk2 : (kd == 2) = false := by simp [k2]
        by_cases k3 : kd = 3
        · subst k3
          have hlk := hT5.lk.me.op
          have hokr := hT5.ok.me.ro'
          have hokd := hT5.dsk.ok.me
          have hOp := fun (u : World) (h : Dsk u b vd (meD c)) => openW_any u b vd (meD c) h
          have hRO := fun (u : World) (h : Rd u vw (meD r).l) => refOpenW_any u vw (meD r) h hT5.ok.me
          obtain ⟨⟨D, E⟩, hD⟩ : ∃ Q, Q = opT (meD c) := ⟨_, rfl⟩
          obtain ⟨⟨R, F⟩, hR⟩ : ∃ Q, Q = roT (meD r) := ⟨_, rfl⟩
          obtain ⟨L, hL⟩ : ∃ L, L = opL (meD c) := ⟨_, rfl⟩
          have HOb := (show Hid (Byts L ∧ L.length ≤ 1000000000) from by rw [hL]; exact ⟨opL_byts hokd, opL_len hokd⟩)
          rw [← hD, ← hR, ← hL] at hlk
          rw [← hR] at hokr
          simp only [← hD, ← hL] at hOp
          simp only [← hR, ← hlk.2.2] at hRO
          obtain rfl : E = F := hlk.1
          have hlk' : Lk D R := hlk.2.1
          have HO := (show Hid (∀ (u : World), Dsk u b vd (meD c) → Calls Try.prog 15 #[.pointer (some ⟨b, 0, none⟩)] u (OpP u b vd (D, E) L)) from hOp)
          have HRO := (show Hid (∀ (u : World), Rd u vw (meD r).l → Calls Try.prog 16 #[.agg (dkc vw (meD r)).toArray] u (RoP u vw (R, E) L)) from hRO)
          try dsimp only at hokr
          clear hD hR hL hlk hOp hRO hokd
          go_upto_region 33 with (go_at_call 24; refine (mend_any w5 b _ _ hT5.dsk).mono ?_; rintro e w6 ⟨rfl, hd6, hg6⟩)
          go_upto_region 34 with (go_at_call 15; refine (HO.out w6 hd6).mono ?_; rintro e w7 ⟨v7, m7, o7, us7, rfl, hd7, hG67, hS67, hm7, hn7, ho7, he7, hf7, ha7⟩)
          have hG7 : Gr2 w5 w7 b vd := (Gr2.of hg6).trans (.inl rfl) hG67
          have hS7 : Spt w5 vd v7 := hS67.imp id (fun h => h.mono hg6.size)
          have rg7 := hG7.row hT5.row (Ne.symm hT5.ne) hT5.ng
          have hrd7 := hG7.rd hT5.rd hT5.ab hT5.ad
          have hrl7 := hG7.lg hT5.dsk hrl5
          clear hG67 hS67 hg6 hd6 HO
          go_upto_region 35 with (first
            | (refine wl_load rfl _ _ rfl g rfl _ _ rg7 _ Try.underlying35 rfl (by kernel_rfl) ?_)
            | (go_at_call 25; refine (refMendD_any w7 vw r HVW.out).mono ?_; rintro e w8 ⟨rfl, hb8⟩; have hrd8 : Rd w8 vw (meD r).l := hrd7.below hb8)
            | (go_at_call 16; refine (HRO.out w8 hrd8).mono ?_; rintro e w9 ⟨vw9, q9, us9, rfl, hrd9, hsp9, ho9, he9, hf9, hb9⟩; have rn9 := Row.new w9 35 (dkc (.slice none 0 0) ⟨[], 0, false, false, 0, 0⟩))
            | (refine wl_store rfl _ _ _ rfl w9.heap.size (dkc vw9 R) rfl rfl _ _ rn9 rfl (by kernel_rfl) (dkc_one (rd_oneD hrd9) _) ?_; intro w10 hr10 hg10))
          have hb79 := below_and hb8 (Nat.le_refl _) hb9
          have hb9x := below_new6 w9 w10 hg10
          have hb710 := below_and hb79 (Nat.le_refl _) hb9x
          have rg10 := rg7.below hb710
          have hrd10 := hrd9.below hb9x
          have hsp10 : vw9 = vw ∨ Fr w7.heap.size vw9 := hsp9.imp id (fun h => h.mono hb8.size)
          have hne9 : w9.heap.size ≠ g := by have := rg7.lt; have := hb79.size; omega
          have hSa := sameList_any w10 o7 q9 L L ((he7.below hb710).rdl (ho7.below hb710) HOb.out.1) ((he9.below hb9x).rdl (ho9.below hb9x) HOb.out.1) HOb.out.2
          rw [decide_eq_true rfl] at hSa
          have HSa := (show Hid (∀ _ : Unit, _) from fun _ => hSa)
          have hEE : (E != E) = false := by simp
          clear hSa ho7 he7 hf7 ha7 ho9 he9 hf9 hb9 hrd8 hrd9 hsp9 hg10 HRO
          by_cases hE0 : E = 0
          · subst hE0
            obtain ⟨gl7, rfl, _, hrn7⟩ := hm7 rfl
            have hrn10 := hrn7.below hb710
            go_upto_region 37 with (go_at_call 10; refine (HSa.out ()).mono ?_; rintro e w11 ⟨rfl, hb11⟩)
            have rg11 := rg10.below hb11
            have r9 := hr10.out.below hb11
            have hrn11 := hrn10.below hb11
            go_wp2_with (first
              | (refine wl_load rfl _ _ rfl w9.heap.size rfl _ _ r9 _ Try.underlying35 rfl (by kernel_rfl) ?_)
              | (refine wl_store rfl _ _ _ rfl g (dkc vw9 R) rfl rfl _ _ rg11 rfl (by kernel_rfl) (dkc_one (rd_oneD hrd10) _) ?_; intro w12 hr12 hg12))
            go_meet
            exact ⟨0, gl7, _, _, _, _, rfl, rfl, rfl, hrn11.grown hg12 (fun e => by cases e; exact hrn11.lgn rg11 rfl), hT5.go hbw hgw hd7 hG7 hS7 (below_and hb710 (Nat.le_refl _) hb11) (hrd10.below hb11) hsp10 hg12 hr12.out hokr hlk'⟩
          · obtain rfl := hn7 hE0
            have hE1 : (E != 0) = true := by simpa using hE0
            go_upto_region 37 with (go_at_call 10; refine (HSa.out ()).mono ?_; rintro e w11 ⟨rfl, hb11⟩)
            have rg11 := rg10.below hb11
            have r9 := hr10.out.below hb11
            have hrl11 := (hrl7.below hb710).below hb11
            go_wp2_with (first
              | (refine wl_load rfl _ _ rfl w9.heap.size rfl _ _ r9 _ Try.underlying35 rfl (by kernel_rfl) ?_)
              | (refine wl_store rfl _ _ _ rfl g (dkc vw9 R) rfl rfl _ _ rg11 rfl (by kernel_rfl) (dkc_one (rd_oneD hrd10) _) ?_; intro w12 hr12 hg12))
            go_meet
            exact ⟨0, gl, _, _, _, _, rfl, rfl, rfl, hrl11.grown hg12 (fun e => by cases e; exact hrl11.lgn rg11 rfl), hT5.go hbw hgw hd7 hG7 hS7 (below_and hb710 (Nat.le_refl _) hb11) (hrd10.below hb11) hsp10 hg12 hr12.out hokr hlk'⟩
        have hk3 : (kd == 3) = false := by simp [k3]
        by_cases k4 : kd = 4
        · subst k4
          go_upto_region 42 with (go_at_call 26; refine (room_any w5 b _ _ A hT5.dsk).mono ?_; rintro e w7 ⟨rfl, hd7, hg7⟩)
          have hG7 : Gr2 w5 w7 b vd := Gr2.of hg7
          have rg7 := hG7.row hT5.row (Ne.symm hT5.ne) hT5.ng
          have ra7 := hG7.row ra5 hgab' hvga
          have e2 := ra7.cell (j := 2) rfl
          have hrd7 := hG7.rd hT5.rd hT5.ab hT5.ad
          have hrl7 := hG7.lg hT5.dsk hrl5
          go_wp2_with (first
            | (go_at_call 27; refine (refRoom_any w7 A).mono ?_; rintro e w7 ⟨rfl, rfl⟩)
            | (refine wl_set rfl _ _ _ rfl g 1 _ rfl rfl _ _ rg7 (show 1 < 6 by decide) (by kernel_rfl) rfl ?_; intro w9 hr9 hg9))
          go_meet
          have hrd8 : Rd w7 vw (roD r A).l := hrd7
          exact ⟨0, gl, _, _, _, _, rfl, rfl, rfl, hrl7.grown hg9 (fun e => by cases e; exact hrl7.lgn rg7 rfl), hT5.go hbw hgw hd7 hG7 (.inl rfl) (Below.refl _ _) hrd8 (.inl rfl) hg9 hr9.out (hT5.ok.ro A) (hT5.lk.ro A)⟩
        have hk4 : (kd == 4) = false := by simp [k4]
        go_wp2_with fail
        go_meet
        exact ⟨0, gl, _, _, _, _, rfl, rfl, rfl, hrl5, hT5⟩
      case rest =>
        obtain ⟨E, gl', vd', vw', c', r', rfl, rfl, rfl, hrl7, hT7⟩ := hcut
        have hee : (E != E) = false := by simp
        obtain ⟨L, hL⟩ : ∃ L, L = r'.l := ⟨_, rfl⟩
        have hcL : c'.l = L := by rw [hL]; exact hT7.lk.1
        have hLB : Byt L := by rw [hL]; exact hT7.ok.byt
        have HT8 := (show Hid (∀ u, Below wc.heap.size wc u → Two w b g u vd' vw' c' r' ∧ Row u gl' 72 (lgc b)) from fun u hu => ⟨hT7.below hu, hrl7.below hu⟩)
        have HBy := (show Hid (∀ u, Below wc.heap.size wc u → Calls Try.prog 29 #[.pointer (some ⟨b, 0, none⟩)] u fun e w' => ∃ v', e = .returned v' ∧ Own w' 5 v' (bc L) ∧ Below wc.heap.size wc w') from fun u hu => by
          have := bytesD_any u b _ _ (HT8.out u hu).1.dsk
          rw [hcL] at this
          exact this.mono fun e w' ⟨v', e1, e2, e3, e4⟩ => ⟨v', e1, e2, below_and hu (Nat.le_refl _) e4⟩)
        have HSa := (show Hid (∀ u v', Below wc.heap.size wc u → Own u 5 v' (bc L) → Calls Try.prog 28 #[v', vw'] u fun e w' => e = .returned (.bool true) ∧ w' = u) from fun u v' hu ho => by
          have := same_any u v' vw' L L (ho.rd hLB) (by rw [hL]; exact (HT8.out u hu).1.rd)
          rwa [decide_eq_true rfl] at this)
        have SK := (show Hid (∀ u, Below wc.heap.size wc u → u.cell? ⟨g, 0, none⟩ = some vw') from fun u hu => (HT8.out u hu).1.row.cell (j := 0) rfl)
        have hdw : Below wc.heap.size wc wc.drew := ⟨rfl, rfl, rfl, Nat.le_refl _, fun _ _ => rfl⟩
        have s0 := SK.out wc (Below.refl _ _)
        clear hL hcL hT7 hT5 hrl5 ra5 c50 c51 c52 c53 hrl7
        go_upto_region 43 with fail
        go_cut [206] from 196 to 206 (fun s206 wx => s206 = .bool false ∧ Below wc.heap.size wc wx)
        case first =>
          go_region_held3 (fun u => u.cell? ⟨g, 0, none⟩ = some vw')
            (first | (with_reducible exact SK.out w9 hB9) | (with_reducible exact SK.out wc (Below.refl _ _)) | (with_reducible exact SK.out wc.drew hdw) | go_keep)
            (first
              | (go_at_call 28; refine (HSa.out _ _ (by first | (with_reducible exact hB9) | (with_reducible exact hB9.drew)) (by first | (with_reducible exact ho9) | (with_reducible exact ho9.drew))).mono ?_; rintro e w10 ⟨rfl, rfl⟩)
              | (go_at_call 29; refine (HBy.out _ (by first | (with_reducible exact Below.refl _ _) | (with_reducible exact hdw))).mono ?_; rintro e w9 ⟨v9, rfl, ho9, hB9⟩))
          all_goals (
            go_wp2_with fail
            go_meet
            exact ⟨rfl, hB9⟩)
        case rest =>
          obtain ⟨rfl, hBd⟩ := hcut
          obtain ⟨hT9, hrl9⟩ := HT8.out _ hBd
          clear s0 hdw HBy HSa SK HT8
          go_wp2_with fail
          go_roundw
          case rel => exact ⟨k + 1, gl', _, _, _, _, by omega, by go_num, rfl, hrl9, hT9⟩
          case measure => simp [intOf]; omega
    · have hki : decide ((k : Int) < (N : Int)) = false := by simp; omega
      go_wp2_with fail
      go_ret
      exact ⟨rfl, hT.bel⟩
end Go.Proofs.Yteafgdidjdfiiaa
