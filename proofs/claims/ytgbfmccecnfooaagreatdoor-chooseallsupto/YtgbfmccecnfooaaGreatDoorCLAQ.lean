/- The walks over package msg: a field written. (Laid by mk5f.py.) -/
import Derived.Test.YtgbfmccecnfooaaGreatDoorCLAL
import Derived.Test.YtgbfmccecnfooaaGreatDoorCLAM
set_option linter.unusedSimpArgs false
set_option linter.unusedVariables false
namespace Go.Proofs.YtgbfmccecnfooaaGreatDoor
section
open Go.RowKit Oct
set_option maxHeartbeats 1000000 in
/-- prep. -/
theorem wprep_any (w0 w : World) (b : Nat) (done : List Int) (r : List Value) (x : PPrep) (hW : WS w0 w b done) (hR : RPrep Any w0 r x) :
    Calls Tryz.prog 177 #[.pointer (some ⟨b, 0, none⟩), .agg r.toArray] w (WPost cPrep w0 w b done x) := by
  obtain ⟨vo, vg, vc, rfl, h1, h2, h3⟩ := hR
  have hr0 := Row.new w 66 [.int .i64 x.1, .int .i64 x.2.1.1, .int .i64 x.2.1.2, .int .i64 x.2.2.1.1, .int .i64 x.2.2.1.2.1, vo, vg, vc]
  have hne := row_new_ne hW
  have hW0 := hW.below (below_alloc w (.cells [.int .i64 x.1, .int .i64 x.2.1.1, .int .i64 x.2.1.2, .int .i64 x.2.2.1.1, .int .i64 x.2.2.1.2.1, vo, vg, vc].toArray 66))
  have hu0 : UFr b w (w.alloc (.cells [.int .i64 x.1, .int .i64 x.2.1.1, .int .i64 x.2.1.2, .int .i64 x.2.2.1.1, .int .i64 x.2.2.1.2.1, vo, vg, vc].toArray 66)) := UFr.below (below_alloc w _)
  go_enter Tryz.func177, Tryz.ntmps177
  have c0 := hr0.cell (j := 0) rfl
  go_wp2_with fail
  refine (wnum_any w0 _ b _ x.1 hW0).mono ?_
  rintro e w1 ⟨hu1, hb1, ⟨ho1, rfl⟩ | ⟨ho1, rfl, hW1⟩⟩
  · go_wp2_with fail
    exact ⟨rfl, WPost.no ((hu0).trans hu1) hb1 (by simp [cPrep, cP, ho1])⟩
  have hr1 := hr0.ufr hu1 hne (by decide)
  have ho1 := (show Hid (_ = true) from ho1)
  go_wp2_with (refine wl_part rfl _ _ rfl w.heap.size 1 rfl _ _ hr1 [.int .i64 x.2.1.1, .int .i64 x.2.1.2] rfl _ Tryz.underlying23 rfl (by kernel_rfl) ?_)
  refine (wballot_any w0 _ b _ [.int .i64 x.2.1.1, .int .i64 x.2.1.2] x.2.1 hW1 rfl).mono ?_
  rintro e w2 ⟨hu2, hb2, ⟨ho2, rfl⟩ | ⟨ho2, rfl, hW2⟩⟩
  · go_wp2_with fail
    exact ⟨rfl, WPost.no (((hu0).trans hu1).trans hu2) hb2 (by simp [cPrep, cP, ho1, ho2])⟩
  have hr2 := hr1.ufr hu2 hne (by decide)
  have ho2 := (show Hid (_ = true) from ho2)
  go_wp2_with (refine wl_part rfl _ _ rfl w.heap.size 3 rfl _ _ hr2 [.int .i64 x.2.2.1.1, .int .i64 x.2.2.1.2.1, vo, vg] rfl _ Tryz.underlying62 rfl (by kernel_rfl) ?_)
  refine (wrequest_any w0 _ b _ [.int .i64 x.2.2.1.1, .int .i64 x.2.2.1.2.1, vo, vg] x.2.2.1 hW2 ⟨vo, vg, rfl, h1, h2⟩).mono ?_
  rintro e w3 ⟨hu3, hb3, ⟨ho3, rfl⟩ | ⟨ho3, rfl, hW3⟩⟩
  · go_wp2_with fail
    exact ⟨rfl, WPost.no ((((hu0).trans hu1).trans hu2).trans hu3) hb3 (by simp [cPrep, cP, ho1, ho2, ho3])⟩
  have hr3 := hr2.ufr hu3 hne (by decide)
  have ho3 := (show Hid (_ = true) from ho3)
  have c3 := hr3.cell (j := 7) rfl
  go_wp2_with fail
  refine (wvotes_any w0 _ b _ _ x.2.2.2 hW3 h3).mono ?_
  rintro e w4 ⟨hu4, hb4, ⟨ho4, rfl⟩ | ⟨ho4, rfl, hW4⟩⟩
  · go_wp2_with fail
    exact ⟨rfl, WPost.no (((((hu0).trans hu1).trans hu2).trans hu3).trans hu4) hb4 (by simp [cPrep, cP, ho1, ho2, ho3, ho4])⟩
  go_wp2_with fail
  go_end0
  refine WPost.yes (((((hu0).trans hu1).trans hu2).trans hu3).trans hu4) ?_ ?_
  · simp [cPrep, cP, ho1.out, ho2.out, ho3.out, ho4]
  · have e : done ++ (cPrep).wr x = done ++ cN.wr x.1 ++ cBal.wr x.2.1 ++ cReq.wr x.2.2.1 ++ (cL cVote).wr x.2.2.2 := by simp [cPrep, cP]
    rw [e]
    exact hW4
set_option maxHeartbeats 1000000 in
theorem wints_none (w0 w : World) (b : Nat) (done : List Int) (ao : Option Addr) (cap : Nat) (ys : List Int) (hW : WS w0 w b done) (hl : ys = []) :
    Calls Tryz.prog 154 #[.pointer (some ⟨b, 0, none⟩), .slice ao 0 cap, .func (.func 120) #[.pointer (some ⟨b, 0, none⟩)] #[]] w (WPost (cL cN) w0 w b done ys) := by
  subst hl
  go_enter Tryz.func154, Tryz.ntmps154
  go_wp2_with fail
  refine (wnum_any w0 _ b _ 0 hW).mono ?_
  rintro e w1 ⟨hu1, hb1, ⟨ho1, rfl⟩ | ⟨ho1, rfl, hW1⟩⟩
  · exact absurd ho1 (by decide)
  go_wp2_with fail
  refine wp_loop_rounds 1 ?_; rw [rounds_succ]
  go_wp2_with fail
  go_end0
  have e : (cL cN).wr [] = cN.wr 0 := by simp [cL, wrN, cN]
  rw [← e] at hW1
  exact WPost.yes hu1 rfl hW1
set_option maxHeartbeats 1000000 in
theorem wints_some (w0 w : World) (b : Nat) (done : List Int) (bb off cap : Nat) (ys : List Int) (hW : WS w0 w b done) (hl : 0 < ys.length) (h64 : ys.length ≤ 64) (hc : ys.length ≤ cap) (hbb : bb < w0.heap.size)
    (hx : ∀ (i : Nat) (a : Int), ys[i]? = some a → ∃ r, r.length = 1 ∧ w0.rangeAt bb (off + i * 1) r ∧ RInt Any w0 r a) :
    Calls Tryz.prog 154 #[.pointer (some ⟨b, 0, none⟩), .slice (some ⟨bb, off, none⟩) ys.length cap, .func (.func 120) #[.pointer (some ⟨b, 0, none⟩)] #[]] w (WPost (cL cN) w0 w b done ys) := by
  go_enter Tryz.func154, Tryz.ntmps154
  go_wp2_with fail
  refine (wnum_any w0 _ b _ (ys.length : Int) hW).mono ?_
  rintro e w1 ⟨hu1, hb1, ⟨ho1, rfl⟩ | ⟨ho1, rfl, hW1⟩⟩
  · exact absurd ho1 (by show ¬ okI _ = false; rw [okI_yes (by omega) (by omega)]; decide)
  clear ho1
  have HX := (show Hid (∀ (i : Nat) (a : Int), ys[i]? = some a → ∃ r, r.length = 1 ∧ w0.rangeAt bb (off + i * 1) r ∧ RInt Any w0 r a) from hx)
  clear hx
  go_wp2_with fail
  go_loopw [18] (fun i wr => ∃ q : Nat, q ≤ ys.length ∧ i = .int .i64 q ∧ Hid ((ys.take q).all cN.ok = true) ∧ WS w0 wr b (done ++ cN.wr (ys.length : Int) ++ wrN cN (ys.take q)) ∧ UFr b w wr) (fun i _ => ys.length - (intOf i).toNat)
  case atStart => exact ⟨0, by omega, rfl, rfl, by simpa [wrN] using hW1, hu1⟩
  case round =>
    obtain ⟨q, hq, rfl, hall, hWr, hur⟩ := hrel
    by_cases hql : q < ys.length
    · obtain ⟨a, ha⟩ : ∃ a, ys[q]? = some a := ⟨_, List.getElem?_eq_getElem hql⟩
      obtain ⟨r, hrl, hrng, hRa⟩ := HX.out q a ha
      have hrng := World.rangeAt.blk hrng (hWr.bel.block bb hbb)
      have HA := (show Hid (ys[q]? = some a) from ha)
      clear ha
      have hRa : r = [.int .i64 a] := hRa
      subst hRa
      have cx := hrng 0 _ rfl
      simp only [Nat.mul_one, Nat.add_zero] at cx
      clear hrng
      go_wp2_with fail
      refine (wnum_any w0 _ b _ a hWr).mono ?_
      rintro e w3 ⟨hu3, hb3, ⟨ho3, rfl⟩ | ⟨ho3, rfl, hW3⟩⟩
      · go_wp2_with fail
        exact ⟨rfl, WPost.no ((hur).trans hu3) hb3 (no_list HA.out ho3)⟩
      have HO := (show Hid (cN.ok a = true) from ho3)
      clear ho3
      go_wp2_with fail
      go_roundw
      case rel => exact ⟨q + 1, by omega, by go_num, yes_all HA.out hall.out HO.out, by rw [wrN_take HA.out, ← List.append_assoc]; exact hW3, (hur).trans hu3⟩
      case measure => simp [intOf]; omega
    · obtain rfl : q = ys.length := by omega
      have hall := hall.out
      rw [List.take_length] at hall hWr
      have HO := (show Hid ((cL cN).ok ys = true) from list_ok h64 hall)
      clear hall
      go_wp2_with fail
      go_end0
      exact WPost.yes hur HO.out (by rw [list_wr, ← List.append_assoc]; exact hWr)
/-- putList of Int. -/
theorem wints_any (w0 w : World) (b : Nat) (done : List Int) (v : Value) (ys : List Int) (hW : WS w0 w b done) (hR : RL RInt 1 Any w0 v ys) :
    Calls Tryz.prog 154 #[.pointer (some ⟨b, 0, none⟩), v, .func (.func 120) #[.pointer (some ⟨b, 0, none⟩)] #[]] w (WPost (cL cN) w0 w b done ys) := by
  by_cases h64 : (64 : Int) < (ys.length : Int)
  · obtain ⟨ao, cap, rfl, hc⟩ := hR.form
    have HO : Hid ((cL cN).ok ys = false) := list_no (by omega)
    go_enter Tryz.func154, Tryz.ntmps154
    go_wp2_with fail
    exact ⟨rfl, WPost.no (UFr.refl _ _) hW.bel HO.out⟩
  · by_cases hl : 0 < ys.length
    · obtain ⟨bb, off, cap, rfl, h1, h2, _, h4, h5⟩ := hR.at hl
      exact wints_some w0 w b done bb off cap ys hW hl (by omega) h1 h4 h5
    · obtain rfl : ys = [] := List.eq_nil_of_length_eq_zero (by omega)
      obtain ⟨ao, cap, rfl, hc⟩ := hR.form
      exact wints_none w0 w b done ao cap [] hW rfl
set_option maxHeartbeats 1000000 in
theorem wreqs_none (w0 w : World) (b : Nat) (done : List Int) (ao : Option Addr) (cap : Nat) (ys : List PReq) (hW : WS w0 w b done) (hl : ys = []) :
    Calls Tryz.prog 155 #[.pointer (some ⟨b, 0, none⟩), .slice ao 0 cap, .func (.func 150) #[.pointer (some ⟨b, 0, none⟩)] #[]] w (WPost (cL cReq) w0 w b done ys) := by
  subst hl
  go_enter Tryz.func155, Tryz.ntmps155
  go_wp2_with fail
  refine (wnum_any w0 _ b _ 0 hW).mono ?_
  rintro e w1 ⟨hu1, hb1, ⟨ho1, rfl⟩ | ⟨ho1, rfl, hW1⟩⟩
  · exact absurd ho1 (by decide)
  go_wp2_with fail
  refine wp_loop_rounds 1 ?_; rw [rounds_succ]
  go_wp2_with fail
  go_end0
  have e : (cL cReq).wr [] = cN.wr 0 := by simp [cL, wrN, cN]
  rw [← e] at hW1
  exact WPost.yes hu1 rfl hW1
set_option maxHeartbeats 1000000 in
theorem wreqs_some (w0 w : World) (b : Nat) (done : List Int) (bb off cap : Nat) (ys : List PReq) (hW : WS w0 w b done) (hl : 0 < ys.length) (h64 : ys.length ≤ 64) (hc : ys.length ≤ cap) (hbb : bb < w0.heap.size)
    (hx : ∀ (i : Nat) (a : PReq), ys[i]? = some a → ∃ r, r.length = 4 ∧ w0.rangeAt bb (off + i * 4) r ∧ RReq Any w0 r a) :
    Calls Tryz.prog 155 #[.pointer (some ⟨b, 0, none⟩), .slice (some ⟨bb, off, none⟩) ys.length cap, .func (.func 150) #[.pointer (some ⟨b, 0, none⟩)] #[]] w (WPost (cL cReq) w0 w b done ys) := by
  go_enter Tryz.func155, Tryz.ntmps155
  go_wp2_with fail
  refine (wnum_any w0 _ b _ (ys.length : Int) hW).mono ?_
  rintro e w1 ⟨hu1, hb1, ⟨ho1, rfl⟩ | ⟨ho1, rfl, hW1⟩⟩
  · exact absurd ho1 (by show ¬ okI _ = false; rw [okI_yes (by omega) (by omega)]; decide)
  clear ho1
  have HX := (show Hid (∀ (i : Nat) (a : PReq), ys[i]? = some a → ∃ r, r.length = 4 ∧ w0.rangeAt bb (off + i * 4) r ∧ RReq Any w0 r a) from hx)
  clear hx
  go_wp2_with fail
  go_loopw [18] (fun i wr => ∃ q : Nat, q ≤ ys.length ∧ i = .int .i64 q ∧ Hid ((ys.take q).all cReq.ok = true) ∧ WS w0 wr b (done ++ cN.wr (ys.length : Int) ++ wrN cReq (ys.take q)) ∧ UFr b w wr) (fun i _ => ys.length - (intOf i).toNat)
  case atStart => exact ⟨0, by omega, rfl, rfl, by simpa [wrN] using hW1, hu1⟩
  case round =>
    obtain ⟨q, hq, rfl, hall, hWr, hur⟩ := hrel
    by_cases hql : q < ys.length
    · obtain ⟨a, ha⟩ : ∃ a, ys[q]? = some a := ⟨_, List.getElem?_eq_getElem hql⟩
      obtain ⟨r, hrl, hrng, hRa⟩ := HX.out q a ha
      have hrng := World.rangeAt.blk hrng (hWr.bel.block bb hbb)
      have HA := (show Hid (ys[q]? = some a) from ha)
      clear ha
      have hb0 := below_alloc wr (.cells ([.int .i64 0, .int .i64 0, .slice none 0 0, .slice none 0 0] : List Value).toArray 62)
      have hrow0 := Row.new wr 62 [.int .i64 0, .int .i64 0, .slice none 0 0, .slice none 0 0]
      have hrl' : ([.int .i64 0, .int .i64 0, .slice none 0 0, .slice none 0 0] : List Value).length = r.length := hrl.symm
      have hr1 : ∀ v ∈ r, v.oneCell' = true := one_RReq hRa
      have hi : (Tryz.prog.info? 62).map (·.size) = some r.length := by rw [hrl]; kernel_rfl
      go_wp2_with (first
        | (refine wpList_load_mid rfl _ _ rfl bb (off + q * 4) rfl r _ hrng Tryz.underlying62 rfl hi ?_)
        | (refine wl_store rfl _ _ _ rfl wr.heap.size r rfl rfl _ _ hrow0 hrl' hi hr1 ?_; intro w2 hrw hg2)
        | (refine wl_load rfl _ _ rfl wr.heap.size rfl _ _ hrw.out _ Tryz.underlying62 rfl hi ?_))
      have hb2 : Below wr.heap.size wr w2 := hb0.trans (grown_below hg2 (by simp) (fun k hk => by cases hk; exact Nat.le_refl _))
      refine (wrequest_any w0 _ b _ r a (hWr.below hb2) hRa).mono ?_
      rintro e w3 ⟨hu3, hb3, ⟨ho3, rfl⟩ | ⟨ho3, rfl, hW3⟩⟩
      · go_wp2_with fail
        exact ⟨rfl, WPost.no ((hur.trans (UFr.below hb2)).trans hu3) hb3 (no_list HA.out ho3)⟩
      have HO := (show Hid (cReq.ok a = true) from ho3)
      clear ho3
      go_wp2_with fail
      go_roundw
      case rel => exact ⟨q + 1, by omega, by go_num, yes_all HA.out hall.out HO.out, by rw [wrN_take HA.out, ← List.append_assoc]; exact hW3, (hur.trans (UFr.below hb2)).trans hu3⟩
      case measure => simp [intOf]; omega
    · obtain rfl : q = ys.length := by omega
      have hall := hall.out
      rw [List.take_length] at hall hWr
      have HO := (show Hid ((cL cReq).ok ys = true) from list_ok h64 hall)
      clear hall
      go_wp2_with fail
      go_end0
      exact WPost.yes hur HO.out (by rw [list_wr, ← List.append_assoc]; exact hWr)
/-- putList of PReq. -/
theorem wreqs_any (w0 w : World) (b : Nat) (done : List Int) (v : Value) (ys : List PReq) (hW : WS w0 w b done) (hR : RL RReq 4 Any w0 v ys) :
    Calls Tryz.prog 155 #[.pointer (some ⟨b, 0, none⟩), v, .func (.func 150) #[.pointer (some ⟨b, 0, none⟩)] #[]] w (WPost (cL cReq) w0 w b done ys) := by
  by_cases h64 : (64 : Int) < (ys.length : Int)
  · obtain ⟨ao, cap, rfl, hc⟩ := hR.form
    have HO : Hid ((cL cReq).ok ys = false) := list_no (by omega)
    go_enter Tryz.func155, Tryz.ntmps155
    go_wp2_with fail
    exact ⟨rfl, WPost.no (UFr.refl _ _) hW.bel HO.out⟩
  · by_cases hl : 0 < ys.length
    · obtain ⟨bb, off, cap, rfl, h1, h2, _, h4, h5⟩ := hR.at hl
      exact wreqs_some w0 w b done bb off cap ys hW hl (by omega) h1 h4 h5
    · obtain rfl : ys = [] := List.eq_nil_of_length_eq_zero (by omega)
      obtain ⟨ao, cap, rfl, hc⟩ := hR.form
      exact wreqs_none w0 w b done ao cap [] hW rfl
set_option maxHeartbeats 1000000 in
theorem wpreps_none (w0 w : World) (b : Nat) (done : List Int) (ao : Option Addr) (cap : Nat) (ys : List PPrep) (hW : WS w0 w b done) (hl : ys = []) :
    Calls Tryz.prog 176 #[.pointer (some ⟨b, 0, none⟩), .slice ao 0 cap, .func (.func 177) #[.pointer (some ⟨b, 0, none⟩)] #[]] w (WPost (cL cPrep) w0 w b done ys) := by
  subst hl
  go_enter Tryz.func176, Tryz.ntmps176
  go_wp2_with fail
  refine (wnum_any w0 _ b _ 0 hW).mono ?_
  rintro e w1 ⟨hu1, hb1, ⟨ho1, rfl⟩ | ⟨ho1, rfl, hW1⟩⟩
  · exact absurd ho1 (by decide)
  go_wp2_with fail
  refine wp_loop_rounds 1 ?_; rw [rounds_succ]
  go_wp2_with fail
  go_end0
  have e : (cL cPrep).wr [] = cN.wr 0 := by simp [cL, wrN, cN]
  rw [← e] at hW1
  exact WPost.yes hu1 rfl hW1
set_option maxHeartbeats 1000000 in
theorem wpreps_some (w0 w : World) (b : Nat) (done : List Int) (bb off cap : Nat) (ys : List PPrep) (hW : WS w0 w b done) (hl : 0 < ys.length) (h64 : ys.length ≤ 64) (hc : ys.length ≤ cap) (hbb : bb < w0.heap.size)
    (hx : ∀ (i : Nat) (a : PPrep), ys[i]? = some a → ∃ r, r.length = 8 ∧ w0.rangeAt bb (off + i * 8) r ∧ RPrep Any w0 r a) :
    Calls Tryz.prog 176 #[.pointer (some ⟨b, 0, none⟩), .slice (some ⟨bb, off, none⟩) ys.length cap, .func (.func 177) #[.pointer (some ⟨b, 0, none⟩)] #[]] w (WPost (cL cPrep) w0 w b done ys) := by
  go_enter Tryz.func176, Tryz.ntmps176
  go_wp2_with fail
  refine (wnum_any w0 _ b _ (ys.length : Int) hW).mono ?_
  rintro e w1 ⟨hu1, hb1, ⟨ho1, rfl⟩ | ⟨ho1, rfl, hW1⟩⟩
  · exact absurd ho1 (by show ¬ okI _ = false; rw [okI_yes (by omega) (by omega)]; decide)
  clear ho1
  have HX := (show Hid (∀ (i : Nat) (a : PPrep), ys[i]? = some a → ∃ r, r.length = 8 ∧ w0.rangeAt bb (off + i * 8) r ∧ RPrep Any w0 r a) from hx)
  clear hx
  go_wp2_with fail
  go_loopw [18] (fun i wr => ∃ q : Nat, q ≤ ys.length ∧ i = .int .i64 q ∧ Hid ((ys.take q).all cPrep.ok = true) ∧ WS w0 wr b (done ++ cN.wr (ys.length : Int) ++ wrN cPrep (ys.take q)) ∧ UFr b w wr) (fun i _ => ys.length - (intOf i).toNat)
  case atStart => exact ⟨0, by omega, rfl, rfl, by simpa [wrN] using hW1, hu1⟩
  case round =>
    obtain ⟨q, hq, rfl, hall, hWr, hur⟩ := hrel
    by_cases hql : q < ys.length
    · obtain ⟨a, ha⟩ : ∃ a, ys[q]? = some a := ⟨_, List.getElem?_eq_getElem hql⟩
      obtain ⟨r, hrl, hrng, hRa⟩ := HX.out q a ha
      have hrng := World.rangeAt.blk hrng (hWr.bel.block bb hbb)
      have HA := (show Hid (ys[q]? = some a) from ha)
      clear ha
      have hb0 := below_alloc wr (.cells ([.int .i64 0, .int .i64 0, .int .i64 0, .int .i64 0, .int .i64 0, .slice none 0 0, .slice none 0 0, .slice none 0 0] : List Value).toArray 66)
      have hrow0 := Row.new wr 66 [.int .i64 0, .int .i64 0, .int .i64 0, .int .i64 0, .int .i64 0, .slice none 0 0, .slice none 0 0, .slice none 0 0]
      have hrl' : ([.int .i64 0, .int .i64 0, .int .i64 0, .int .i64 0, .int .i64 0, .slice none 0 0, .slice none 0 0, .slice none 0 0] : List Value).length = r.length := hrl.symm
      have hr1 : ∀ v ∈ r, v.oneCell' = true := one_RPrep hRa
      have hi : (Tryz.prog.info? 66).map (·.size) = some r.length := by rw [hrl]; kernel_rfl
      go_wp2_with (first
        | (refine wpList_load_mid rfl _ _ rfl bb (off + q * 8) rfl r _ hrng Tryz.underlying66 rfl hi ?_)
        | (refine wl_store rfl _ _ _ rfl wr.heap.size r rfl rfl _ _ hrow0 hrl' hi hr1 ?_; intro w2 hrw hg2)
        | (refine wl_load rfl _ _ rfl wr.heap.size rfl _ _ hrw.out _ Tryz.underlying66 rfl hi ?_))
      have hb2 : Below wr.heap.size wr w2 := hb0.trans (grown_below hg2 (by simp) (fun k hk => by cases hk; exact Nat.le_refl _))
      refine (wprep_any w0 _ b _ r a (hWr.below hb2) hRa).mono ?_
      rintro e w3 ⟨hu3, hb3, ⟨ho3, rfl⟩ | ⟨ho3, rfl, hW3⟩⟩
      · go_wp2_with fail
        exact ⟨rfl, WPost.no ((hur.trans (UFr.below hb2)).trans hu3) hb3 (no_list HA.out ho3)⟩
      have HO := (show Hid (cPrep.ok a = true) from ho3)
      clear ho3
      go_wp2_with fail
      go_roundw
      case rel => exact ⟨q + 1, by omega, by go_num, yes_all HA.out hall.out HO.out, by rw [wrN_take HA.out, ← List.append_assoc]; exact hW3, (hur.trans (UFr.below hb2)).trans hu3⟩
      case measure => simp [intOf]; omega
    · obtain rfl : q = ys.length := by omega
      have hall := hall.out
      rw [List.take_length] at hall hWr
      have HO := (show Hid ((cL cPrep).ok ys = true) from list_ok h64 hall)
      clear hall
      go_wp2_with fail
      go_end0
      exact WPost.yes hur HO.out (by rw [list_wr, ← List.append_assoc]; exact hWr)
/-- putList of PPrep. -/
theorem wpreps_any (w0 w : World) (b : Nat) (done : List Int) (v : Value) (ys : List PPrep) (hW : WS w0 w b done) (hR : RL RPrep 8 Any w0 v ys) :
    Calls Tryz.prog 176 #[.pointer (some ⟨b, 0, none⟩), v, .func (.func 177) #[.pointer (some ⟨b, 0, none⟩)] #[]] w (WPost (cL cPrep) w0 w b done ys) := by
  by_cases h64 : (64 : Int) < (ys.length : Int)
  · obtain ⟨ao, cap, rfl, hc⟩ := hR.form
    have HO : Hid ((cL cPrep).ok ys = false) := list_no (by omega)
    go_enter Tryz.func176, Tryz.ntmps176
    go_wp2_with fail
    exact ⟨rfl, WPost.no (UFr.refl _ _) hW.bel HO.out⟩
  · by_cases hl : 0 < ys.length
    · obtain ⟨bb, off, cap, rfl, h1, h2, _, h4, h5⟩ := hR.at hl
      exact wpreps_some w0 w b done bb off cap ys hW hl (by omega) h1 h4 h5
    · obtain rfl : ys = [] := List.eq_nil_of_length_eq_zero (by omega)
      obtain ⟨ao, cap, rfl, hc⟩ := hR.form
      exact wpreps_none w0 w b done ao cap [] hW rfl
end
section
open Go.RowKit Oct
set_option maxHeartbeats 1000000 in
/-- report. -/
theorem wreport_any (w0 w : World) (b : Nat) (done : List Int) (r : List Value) (x : PRep) (hW : WS w0 w b done) (hR : RRep Any w0 r x) :
    Calls Tryz.prog 157 #[.pointer (some ⟨b, 0, none⟩), .agg r.toArray] w (WPost cRep w0 w b done x) := by
  obtain ⟨vd, vs, vp, vg, rfl, h1, h2, h3, h4⟩ := hR
  have hr0 := Row.new w 28 [.int .i64 x.1.1, .int .i64 x.1.2, .int .i64 x.2.1, .int .i64 x.2.2.1, vd, vs, vp, vg]
  have hne := row_new_ne hW
  have hW0 := hW.below (below_alloc w (.cells [.int .i64 x.1.1, .int .i64 x.1.2, .int .i64 x.2.1, .int .i64 x.2.2.1, vd, vs, vp, vg].toArray 28))
  have hu0 : UFr b w (w.alloc (.cells [.int .i64 x.1.1, .int .i64 x.1.2, .int .i64 x.2.1, .int .i64 x.2.2.1, vd, vs, vp, vg].toArray 28)) := UFr.below (below_alloc w _)
  go_enter Tryz.func157, Tryz.ntmps157
  go_wp2_with (refine wl_part rfl _ _ rfl w.heap.size 0 rfl _ _ hr0 [.int .i64 x.1.1, .int .i64 x.1.2] rfl _ Tryz.underlying23 rfl (by kernel_rfl) ?_)
  refine (wballot_any w0 _ b _ [.int .i64 x.1.1, .int .i64 x.1.2] x.1 hW0 rfl).mono ?_
  rintro e w1 ⟨hu1, hb1, ⟨ho1, rfl⟩ | ⟨ho1, rfl, hW1⟩⟩
  · go_wp2_with fail
    exact ⟨rfl, WPost.no ((hu0).trans hu1) hb1 (by simp [cRep, cP, ho1])⟩
  have hr1 := hr0.ufr hu1 hne (by decide)
  have ho1 := (show Hid (_ = true) from ho1)
  have c1 := hr1.cell (j := 2) rfl
  go_wp2_with fail
  refine (wnum_any w0 _ b _ x.2.1 hW1).mono ?_
  rintro e w2 ⟨hu2, hb2, ⟨ho2, rfl⟩ | ⟨ho2, rfl, hW2⟩⟩
  · go_wp2_with fail
    exact ⟨rfl, WPost.no (((hu0).trans hu1).trans hu2) hb2 (by simp [cRep, cP, ho1, ho2])⟩
  have hr2 := hr1.ufr hu2 hne (by decide)
  have ho2 := (show Hid (_ = true) from ho2)
  have c2 := hr2.cell (j := 3) rfl
  go_wp2_with fail
  refine (wnum_any w0 _ b _ x.2.2.1 hW2).mono ?_
  rintro e w3 ⟨hu3, hb3, ⟨ho3, rfl⟩ | ⟨ho3, rfl, hW3⟩⟩
  · go_wp2_with fail
    exact ⟨rfl, WPost.no ((((hu0).trans hu1).trans hu2).trans hu3) hb3 (by simp [cRep, cP, ho1, ho2, ho3])⟩
  have hr3 := hr2.ufr hu3 hne (by decide)
  have ho3 := (show Hid (_ = true) from ho3)
  have c3 := hr3.cell (j := 4) rfl
  go_wp2_with fail
  refine (wtext_any w0 _ b _ _ x.2.2.2.1 hW3 h1).mono ?_
  rintro e w4 ⟨hu4, hb4, ⟨ho4, rfl⟩ | ⟨ho4, rfl, hW4⟩⟩
  · go_wp2_with fail
    exact ⟨rfl, WPost.no (((((hu0).trans hu1).trans hu2).trans hu3).trans hu4) hb4 (by simp [cRep, cP, ho1, ho2, ho3, ho4])⟩
  have hr4 := hr3.ufr hu4 hne (by decide)
  have ho4 := (show Hid (_ = true) from ho4)
  have c4 := hr4.cell (j := 5) rfl
  go_wp2_with fail
  refine (wvotes_any w0 _ b _ _ x.2.2.2.2.1 hW4 h2).mono ?_
  rintro e w5 ⟨hu5, hb5, ⟨ho5, rfl⟩ | ⟨ho5, rfl, hW5⟩⟩
  · go_wp2_with fail
    exact ⟨rfl, WPost.no ((((((hu0).trans hu1).trans hu2).trans hu3).trans hu4).trans hu5) hb5 (by simp [cRep, cP, ho1, ho2, ho3, ho4, ho5])⟩
  have hr5 := hr4.ufr hu5 hne (by decide)
  have ho5 := (show Hid (_ = true) from ho5)
  have c5 := hr5.cell (j := 6) rfl
  go_wp2_with fail
  refine (wpreps_any w0 _ b _ _ x.2.2.2.2.2.1 hW5 h3).mono ?_
  rintro e w6 ⟨hu6, hb6, ⟨ho6, rfl⟩ | ⟨ho6, rfl, hW6⟩⟩
  · go_wp2_with fail
    exact ⟨rfl, WPost.no (((((((hu0).trans hu1).trans hu2).trans hu3).trans hu4).trans hu5).trans hu6) hb6 (by simp [cRep, cP, ho1, ho2, ho3, ho4, ho5, ho6])⟩
  have hr6 := hr5.ufr hu6 hne (by decide)
  have ho6 := (show Hid (_ = true) from ho6)
  have c6 := hr6.cell (j := 7) rfl
  go_wp2_with fail
  refine (wtext_any w0 _ b _ _ x.2.2.2.2.2.2 hW6 h4).mono ?_
  rintro e w7 ⟨hu7, hb7, ⟨ho7, rfl⟩ | ⟨ho7, rfl, hW7⟩⟩
  · go_wp2_with fail
    exact ⟨rfl, WPost.no ((((((((hu0).trans hu1).trans hu2).trans hu3).trans hu4).trans hu5).trans hu6).trans hu7) hb7 (by simp [cRep, cP, ho1, ho2, ho3, ho4, ho5, ho6, ho7])⟩
  go_wp2_with fail
  go_end0
  refine WPost.yes ((((((((hu0).trans hu1).trans hu2).trans hu3).trans hu4).trans hu5).trans hu6).trans hu7) ?_ ?_
  · simp [cRep, cP, ho1.out, ho2.out, ho3.out, ho4.out, ho5.out, ho6.out, ho7]
  · have e : done ++ (cRep).wr x = done ++ cBal.wr x.1 ++ cN.wr x.2.1 ++ cN.wr x.2.2.1 ++ cT.wr x.2.2.2.1 ++ (cL cVote).wr x.2.2.2.2.1 ++ (cL cPrep).wr x.2.2.2.2.2.1 ++ cT.wr x.2.2.2.2.2.2 := by simp [cRep, cP]
    rw [e]
    exact hW7
set_option maxHeartbeats 1000000 in
theorem wreps_none (w0 w : World) (b : Nat) (done : List Int) (ao : Option Addr) (cap : Nat) (ys : List PRep) (hW : WS w0 w b done) (hl : ys = []) :
    Calls Tryz.prog 156 #[.pointer (some ⟨b, 0, none⟩), .slice ao 0 cap, .func (.func 157) #[.pointer (some ⟨b, 0, none⟩)] #[]] w (WPost (cL cRep) w0 w b done ys) := by
  subst hl
  go_enter Tryz.func156, Tryz.ntmps156
  go_wp2_with fail
  refine (wnum_any w0 _ b _ 0 hW).mono ?_
  rintro e w1 ⟨hu1, hb1, ⟨ho1, rfl⟩ | ⟨ho1, rfl, hW1⟩⟩
  · exact absurd ho1 (by decide)
  go_wp2_with fail
  refine wp_loop_rounds 1 ?_; rw [rounds_succ]
  go_wp2_with fail
  go_end0
  have e : (cL cRep).wr [] = cN.wr 0 := by simp [cL, wrN, cN]
  rw [← e] at hW1
  exact WPost.yes hu1 rfl hW1
set_option maxHeartbeats 1000000 in
theorem wreps_some (w0 w : World) (b : Nat) (done : List Int) (bb off cap : Nat) (ys : List PRep) (hW : WS w0 w b done) (hl : 0 < ys.length) (h64 : ys.length ≤ 64) (hc : ys.length ≤ cap) (hbb : bb < w0.heap.size)
    (hx : ∀ (i : Nat) (a : PRep), ys[i]? = some a → ∃ r, r.length = 8 ∧ w0.rangeAt bb (off + i * 8) r ∧ RRep Any w0 r a) :
    Calls Tryz.prog 156 #[.pointer (some ⟨b, 0, none⟩), .slice (some ⟨bb, off, none⟩) ys.length cap, .func (.func 157) #[.pointer (some ⟨b, 0, none⟩)] #[]] w (WPost (cL cRep) w0 w b done ys) := by
  go_enter Tryz.func156, Tryz.ntmps156
  go_wp2_with fail
  refine (wnum_any w0 _ b _ (ys.length : Int) hW).mono ?_
  rintro e w1 ⟨hu1, hb1, ⟨ho1, rfl⟩ | ⟨ho1, rfl, hW1⟩⟩
  · exact absurd ho1 (by show ¬ okI _ = false; rw [okI_yes (by omega) (by omega)]; decide)
  clear ho1
  have HX := (show Hid (∀ (i : Nat) (a : PRep), ys[i]? = some a → ∃ r, r.length = 8 ∧ w0.rangeAt bb (off + i * 8) r ∧ RRep Any w0 r a) from hx)
  clear hx
  go_wp2_with fail
  go_loopw [18] (fun i wr => ∃ q : Nat, q ≤ ys.length ∧ i = .int .i64 q ∧ Hid ((ys.take q).all cRep.ok = true) ∧ WS w0 wr b (done ++ cN.wr (ys.length : Int) ++ wrN cRep (ys.take q)) ∧ UFr b w wr) (fun i _ => ys.length - (intOf i).toNat)
  case atStart => exact ⟨0, by omega, rfl, rfl, by simpa [wrN] using hW1, hu1⟩
  case round =>
    obtain ⟨q, hq, rfl, hall, hWr, hur⟩ := hrel
    by_cases hql : q < ys.length
    · obtain ⟨a, ha⟩ : ∃ a, ys[q]? = some a := ⟨_, List.getElem?_eq_getElem hql⟩
      obtain ⟨r, hrl, hrng, hRa⟩ := HX.out q a ha
      have hrng := World.rangeAt.blk hrng (hWr.bel.block bb hbb)
      have HA := (show Hid (ys[q]? = some a) from ha)
      clear ha
      have hb0 := below_alloc wr (.cells ([.int .i64 0, .int .i64 0, .int .i64 0, .int .i64 0, .slice none 0 0, .slice none 0 0, .slice none 0 0, .slice none 0 0] : List Value).toArray 28)
      have hrow0 := Row.new wr 28 [.int .i64 0, .int .i64 0, .int .i64 0, .int .i64 0, .slice none 0 0, .slice none 0 0, .slice none 0 0, .slice none 0 0]
      have hrl' : ([.int .i64 0, .int .i64 0, .int .i64 0, .int .i64 0, .slice none 0 0, .slice none 0 0, .slice none 0 0, .slice none 0 0] : List Value).length = r.length := hrl.symm
      have hr1 : ∀ v ∈ r, v.oneCell' = true := one_RRep hRa
      have hi : (Tryz.prog.info? 28).map (·.size) = some r.length := by rw [hrl]; kernel_rfl
      go_wp2_with (first
        | (refine wpList_load_mid rfl _ _ rfl bb (off + q * 8) rfl r _ hrng Tryz.underlying28 rfl hi ?_)
        | (refine wl_store rfl _ _ _ rfl wr.heap.size r rfl rfl _ _ hrow0 hrl' hi hr1 ?_; intro w2 hrw hg2)
        | (refine wl_load rfl _ _ rfl wr.heap.size rfl _ _ hrw.out _ Tryz.underlying28 rfl hi ?_))
      have hb2 : Below wr.heap.size wr w2 := hb0.trans (grown_below hg2 (by simp) (fun k hk => by cases hk; exact Nat.le_refl _))
      refine (wreport_any w0 _ b _ r a (hWr.below hb2) hRa).mono ?_
      rintro e w3 ⟨hu3, hb3, ⟨ho3, rfl⟩ | ⟨ho3, rfl, hW3⟩⟩
      · go_wp2_with fail
        exact ⟨rfl, WPost.no ((hur.trans (UFr.below hb2)).trans hu3) hb3 (no_list HA.out ho3)⟩
      have HO := (show Hid (cRep.ok a = true) from ho3)
      clear ho3
      go_wp2_with fail
      go_roundw
      case rel => exact ⟨q + 1, by omega, by go_num, yes_all HA.out hall.out HO.out, by rw [wrN_take HA.out, ← List.append_assoc]; exact hW3, (hur.trans (UFr.below hb2)).trans hu3⟩
      case measure => simp [intOf]; omega
    · obtain rfl : q = ys.length := by omega
      have hall := hall.out
      rw [List.take_length] at hall hWr
      have HO := (show Hid ((cL cRep).ok ys = true) from list_ok h64 hall)
      clear hall
      go_wp2_with fail
      go_end0
      exact WPost.yes hur HO.out (by rw [list_wr, ← List.append_assoc]; exact hWr)
/-- putList of PRep. -/
theorem wreps_any (w0 w : World) (b : Nat) (done : List Int) (v : Value) (ys : List PRep) (hW : WS w0 w b done) (hR : RL RRep 8 Any w0 v ys) :
    Calls Tryz.prog 156 #[.pointer (some ⟨b, 0, none⟩), v, .func (.func 157) #[.pointer (some ⟨b, 0, none⟩)] #[]] w (WPost (cL cRep) w0 w b done ys) := by
  by_cases h64 : (64 : Int) < (ys.length : Int)
  · obtain ⟨ao, cap, rfl, hc⟩ := hR.form
    have HO : Hid ((cL cRep).ok ys = false) := list_no (by omega)
    go_enter Tryz.func156, Tryz.ntmps156
    go_wp2_with fail
    exact ⟨rfl, WPost.no (UFr.refl _ _) hW.bel HO.out⟩
  · by_cases hl : 0 < ys.length
    · obtain ⟨bb, off, cap, rfl, h1, h2, _, h4, h5⟩ := hR.at hl
      exact wreps_some w0 w b done bb off cap ys hW hl (by omega) h1 h4 h5
    · obtain rfl : ys = [] := List.eq_nil_of_length_eq_zero (by omega)
      obtain ⟨ao, cap, rfl, hc⟩ := hR.form
      exact wreps_none w0 w b done ao cap [] hW rfl
end
section
open Go.RowKit Oct
set_option maxHeartbeats 1000000 in
theorem wfield_0 (w0 w : World) (b : Nat) (done : List Int) (m : PMsg) (s : SV) (hW : WS w0 w b done) (hs : SOk Any w0 m s) :
    Calls Tryz.prog 121 #[.pointer (some ⟨b, 0, none⟩), .agg (mc m s).toArray, .int .i32 66] w (WPost cBal w0 w b done m.bal) := by
  have hr0 := Row.new w 72 (mc m s)
  have hW0 := hW.below (below_alloc w (.cells (mc m s).toArray 72))
  have hu0 : UFr b w (w.alloc (.cells (mc m s).toArray 72)) := UFr.below (below_alloc w _)
  have hK := wballot_any w0 _ b done [.int .i64 m.bal.1, .int .i64 m.bal.2] m.bal hW0 rfl
  go_enter Tryz.func121, Tryz.ntmps121
  go_wp2_with (refine wl_part rfl _ _ rfl w.heap.size 1 rfl _ _ hr0 [.int .i64 m.bal.1, .int .i64 m.bal.2] rfl _ Tryz.underlying23 rfl (by kernel_rfl) ?_)
  refine hK.mono ?_
  rintro e w1 ⟨hu1, hb1, ⟨ho1, rfl⟩ | ⟨ho1, rfl, hW1⟩⟩
  · go_wp2_with fail
    exact ⟨rfl, WPost.no (hu0.trans hu1) hb1 ho1⟩
  go_wp2_with fail
  go_end0
  exact WPost.yes (hu0.trans hu1) ho1 hW1
set_option maxHeartbeats 1000000 in
theorem wfield_1 (w0 w : World) (b : Nat) (done : List Int) (m : PMsg) (s : SV) (hW : WS w0 w b done) (hs : SOk Any w0 m s) :
    Calls Tryz.prog 121 #[.pointer (some ⟨b, 0, none⟩), .agg (mc m s).toArray, .int .i32 83] w (WPost cN w0 w b done m.slot) := by
  have hr0 := Row.new w 72 (mc m s)
  have hW0 := hW.below (below_alloc w (.cells (mc m s).toArray 72))
  have hu0 : UFr b w (w.alloc (.cells (mc m s).toArray 72)) := UFr.below (below_alloc w _)
  have c0 := hr0.cell (j := 3) rfl
  have hK := wnum_any w0 _ b done m.slot hW0
  go_enter Tryz.func121, Tryz.ntmps121
  go_wp2_with fail
  refine hK.mono ?_
  rintro e w1 ⟨hu1, hb1, ⟨ho1, rfl⟩ | ⟨ho1, rfl, hW1⟩⟩
  · go_wp2_with fail
    exact ⟨rfl, WPost.no (hu0.trans hu1) hb1 ho1⟩
  go_wp2_with fail
  go_end0
  exact WPost.yes (hu0.trans hu1) ho1 hW1
set_option maxHeartbeats 1000000 in
theorem wfield_2 (w0 w : World) (b : Nat) (done : List Int) (m : PMsg) (s : SV) (hW : WS w0 w b done) (hs : SOk Any w0 m s) :
    Calls Tryz.prog 121 #[.pointer (some ⟨b, 0, none⟩), .agg (mc m s).toArray, .int .i32 70] w (WPost cN w0 w b done m.frm) := by
  have hr0 := Row.new w 72 (mc m s)
  have hW0 := hW.below (below_alloc w (.cells (mc m s).toArray 72))
  have hu0 : UFr b w (w.alloc (.cells (mc m s).toArray 72)) := UFr.below (below_alloc w _)
  have c0 := hr0.cell (j := 4) rfl
  have hK := wnum_any w0 _ b done m.frm hW0
  go_enter Tryz.func121, Tryz.ntmps121
  go_wp2_with fail
  refine hK.mono ?_
  rintro e w1 ⟨hu1, hb1, ⟨ho1, rfl⟩ | ⟨ho1, rfl, hW1⟩⟩
  · go_wp2_with fail
    exact ⟨rfl, WPost.no (hu0.trans hu1) hb1 ho1⟩
  go_wp2_with fail
  go_end0
  exact WPost.yes (hu0.trans hu1) ho1 hW1
set_option maxHeartbeats 1000000 in
theorem wfield_3 (w0 w : World) (b : Nat) (done : List Int) (m : PMsg) (s : SV) (hW : WS w0 w b done) (hs : SOk Any w0 m s) :
    Calls Tryz.prog 121 #[.pointer (some ⟨b, 0, none⟩), .agg (mc m s).toArray, .int .i32 84] w (WPost cN w0 w b done m.to) := by
  have hr0 := Row.new w 72 (mc m s)
  have hW0 := hW.below (below_alloc w (.cells (mc m s).toArray 72))
  have hu0 : UFr b w (w.alloc (.cells (mc m s).toArray 72)) := UFr.below (below_alloc w _)
  have c0 := hr0.cell (j := 5) rfl
  have hK := wnum_any w0 _ b done m.to hW0
  go_enter Tryz.func121, Tryz.ntmps121
  go_wp2_with fail
  refine hK.mono ?_
  rintro e w1 ⟨hu1, hb1, ⟨ho1, rfl⟩ | ⟨ho1, rfl, hW1⟩⟩
  · go_wp2_with fail
    exact ⟨rfl, WPost.no (hu0.trans hu1) hb1 ho1⟩
  go_wp2_with fail
  go_end0
  exact WPost.yes (hu0.trans hu1) ho1 hW1
set_option maxHeartbeats 1000000 in
theorem wfield_4 (w0 w : World) (b : Nat) (done : List Int) (m : PMsg) (s : SV) (hW : WS w0 w b done) (hs : SOk Any w0 m s) :
    Calls Tryz.prog 121 #[.pointer (some ⟨b, 0, none⟩), .agg (mc m s).toArray, .int .i32 73] w (WPost cN w0 w b done m.idx) := by
  have hr0 := Row.new w 72 (mc m s)
  have hW0 := hW.below (below_alloc w (.cells (mc m s).toArray 72))
  have hu0 : UFr b w (w.alloc (.cells (mc m s).toArray 72)) := UFr.below (below_alloc w _)
  have c0 := hr0.cell (j := 6) rfl
  have hK := wnum_any w0 _ b done m.idx hW0
  go_enter Tryz.func121, Tryz.ntmps121
  go_wp2_with fail
  refine hK.mono ?_
  rintro e w1 ⟨hu1, hb1, ⟨ho1, rfl⟩ | ⟨ho1, rfl, hW1⟩⟩
  · go_wp2_with fail
    exact ⟨rfl, WPost.no (hu0.trans hu1) hb1 ho1⟩
  go_wp2_with fail
  go_end0
  exact WPost.yes (hu0.trans hu1) ho1 hW1
set_option maxHeartbeats 1000000 in
theorem wfield_5 (w0 w : World) (b : Nat) (done : List Int) (m : PMsg) (s : SV) (hW : WS w0 w b done) (hs : SOk Any w0 m s) :
    Calls Tryz.prog 121 #[.pointer (some ⟨b, 0, none⟩), .agg (mc m s).toArray, .int .i32 67] w (WPost cN w0 w b done m.cnt) := by
  have hr0 := Row.new w 72 (mc m s)
  have hW0 := hW.below (below_alloc w (.cells (mc m s).toArray 72))
  have hu0 : UFr b w (w.alloc (.cells (mc m s).toArray 72)) := UFr.below (below_alloc w _)
  have c0 := hr0.cell (j := 7) rfl
  have hK := wnum_any w0 _ b done m.cnt hW0
  go_enter Tryz.func121, Tryz.ntmps121
  go_wp2_with fail
  refine hK.mono ?_
  rintro e w1 ⟨hu1, hb1, ⟨ho1, rfl⟩ | ⟨ho1, rfl, hW1⟩⟩
  · go_wp2_with fail
    exact ⟨rfl, WPost.no (hu0.trans hu1) hb1 ho1⟩
  go_wp2_with fail
  go_end0
  exact WPost.yes (hu0.trans hu1) ho1 hW1
set_option maxHeartbeats 1000000 in
theorem wfield_6 (w0 w : World) (b : Nat) (done : List Int) (m : PMsg) (s : SV) (hW : WS w0 w b done) (hs : SOk Any w0 m s) :
    Calls Tryz.prog 121 #[.pointer (some ⟨b, 0, none⟩), .agg (mc m s).toArray, .int .i32 82] w (WPost cReq w0 w b done m.req) := by
  have hr0 := Row.new w 72 (mc m s)
  have hW0 := hW.below (below_alloc w (.cells (mc m s).toArray 72))
  have hu0 : UFr b w (w.alloc (.cells (mc m s).toArray 72)) := UFr.below (below_alloc w _)
  have hK := wrequest_any w0 _ b done [.int .i64 m.req.1, .int .i64 m.req.2.1, s.o, s.g] m.req hW0 ⟨_, _, rfl, hs.o, hs.g⟩
  go_enter Tryz.func121, Tryz.ntmps121
  go_wp2_with (refine wl_part rfl _ _ rfl w.heap.size 8 rfl _ _ hr0 [.int .i64 m.req.1, .int .i64 m.req.2.1, s.o, s.g] rfl _ Tryz.underlying62 rfl (by kernel_rfl) ?_)
  refine hK.mono ?_
  rintro e w1 ⟨hu1, hb1, ⟨ho1, rfl⟩ | ⟨ho1, rfl, hW1⟩⟩
  · go_wp2_with fail
    exact ⟨rfl, WPost.no (hu0.trans hu1) hb1 ho1⟩
  go_wp2_with fail
  go_end0
  exact WPost.yes (hu0.trans hu1) ho1 hW1
set_option maxHeartbeats 1000000 in
theorem wfield_7 (w0 w : World) (b : Nat) (done : List Int) (m : PMsg) (s : SV) (hW : WS w0 w b done) (hs : SOk Any w0 m s) :
    Calls Tryz.prog 121 #[.pointer (some ⟨b, 0, none⟩), .agg (mc m s).toArray, .int .i32 79] w (WPost cReq w0 w b done m.oth) := by
  have hr0 := Row.new w 72 (mc m s)
  have hW0 := hW.below (below_alloc w (.cells (mc m s).toArray 72))
  have hu0 : UFr b w (w.alloc (.cells (mc m s).toArray 72)) := UFr.below (below_alloc w _)
  have hK := wrequest_any w0 _ b done [.int .i64 m.oth.1, .int .i64 m.oth.2.1, s.o', s.g'] m.oth hW0 ⟨_, _, rfl, hs.o', hs.g'⟩
  go_enter Tryz.func121, Tryz.ntmps121
  go_wp2_with (refine wl_part rfl _ _ rfl w.heap.size 12 rfl _ _ hr0 [.int .i64 m.oth.1, .int .i64 m.oth.2.1, s.o', s.g'] rfl _ Tryz.underlying62 rfl (by kernel_rfl) ?_)
  refine hK.mono ?_
  rintro e w1 ⟨hu1, hb1, ⟨ho1, rfl⟩ | ⟨ho1, rfl, hW1⟩⟩
  · go_wp2_with fail
    exact ⟨rfl, WPost.no (hu0.trans hu1) hb1 ho1⟩
  go_wp2_with fail
  go_end0
  exact WPost.yes (hu0.trans hu1) ho1 hW1
set_option maxHeartbeats 1000000 in
theorem wfield_8 (w0 w : World) (b : Nat) (done : List Int) (m : PMsg) (s : SV) (hW : WS w0 w b done) (hs : SOk Any w0 m s) :
    Calls Tryz.prog 121 #[.pointer (some ⟨b, 0, none⟩), .agg (mc m s).toArray, .int .i32 68] w (WPost cT w0 w b done m.data) := by
  have hr0 := Row.new w 72 (mc m s)
  have hW0 := hW.below (below_alloc w (.cells (mc m s).toArray 72))
  have hu0 : UFr b w (w.alloc (.cells (mc m s).toArray 72)) := UFr.below (below_alloc w _)
  have c0 := hr0.cell (j := 16) rfl
  have hK := wtext_any w0 _ b done _ m.data hW0 hs.d
  go_enter Tryz.func121, Tryz.ntmps121
  go_wp2_with fail
  refine hK.mono ?_
  rintro e w1 ⟨hu1, hb1, ⟨ho1, rfl⟩ | ⟨ho1, rfl, hW1⟩⟩
  · go_wp2_with fail
    exact ⟨rfl, WPost.no (hu0.trans hu1) hb1 ho1⟩
  go_wp2_with fail
  go_end0
  exact WPost.yes (hu0.trans hu1) ho1 hW1
set_option maxHeartbeats 1000000 in
theorem wfield_9 (w0 w : World) (b : Nat) (done : List Int) (m : PMsg) (s : SV) (hW : WS w0 w b done) (hs : SOk Any w0 m s) :
    Calls Tryz.prog 121 #[.pointer (some ⟨b, 0, none⟩), .agg (mc m s).toArray, .int .i32 71] w (WPost cT w0 w b done m.sig) := by
  have hr0 := Row.new w 72 (mc m s)
  have hW0 := hW.below (below_alloc w (.cells (mc m s).toArray 72))
  have hu0 : UFr b w (w.alloc (.cells (mc m s).toArray 72)) := UFr.below (below_alloc w _)
  have c0 := hr0.cell (j := 17) rfl
  have hK := wtext_any w0 _ b done _ m.sig hW0 hs.s
  go_enter Tryz.func121, Tryz.ntmps121
  go_wp2_with fail
  refine hK.mono ?_
  rintro e w1 ⟨hu1, hb1, ⟨ho1, rfl⟩ | ⟨ho1, rfl, hW1⟩⟩
  · go_wp2_with fail
    exact ⟨rfl, WPost.no (hu0.trans hu1) hb1 ho1⟩
  go_wp2_with fail
  go_end0
  exact WPost.yes (hu0.trans hu1) ho1 hW1
set_option maxHeartbeats 1000000 in
theorem wfield_10 (w0 w : World) (b : Nat) (done : List Int) (m : PMsg) (s : SV) (hW : WS w0 w b done) (hs : SOk Any w0 m s) :
    Calls Tryz.prog 121 #[.pointer (some ⟨b, 0, none⟩), .agg (mc m s).toArray, .int .i32 69] w (WPost (cL cVote) w0 w b done m.cert) := by
  have hr0 := Row.new w 72 (mc m s)
  have hW0 := hW.below (below_alloc w (.cells (mc m s).toArray 72))
  have hu0 : UFr b w (w.alloc (.cells (mc m s).toArray 72)) := UFr.below (below_alloc w _)
  have c0 := hr0.cell (j := 18) rfl
  have hK := wvotes_any w0 _ b done _ m.cert hW0 hs.c
  go_enter Tryz.func121, Tryz.ntmps121
  go_wp2_with fail
  refine hK.mono ?_
  rintro e w1 ⟨hu1, hb1, ⟨ho1, rfl⟩ | ⟨ho1, rfl, hW1⟩⟩
  · go_wp2_with fail
    exact ⟨rfl, WPost.no (hu0.trans hu1) hb1 ho1⟩
  go_wp2_with fail
  go_end0
  exact WPost.yes (hu0.trans hu1) ho1 hW1
set_option maxHeartbeats 1000000 in
theorem wfield_11 (w0 w : World) (b : Nat) (done : List Int) (m : PMsg) (s : SV) (hW : WS w0 w b done) (hs : SOk Any w0 m s) :
    Calls Tryz.prog 121 #[.pointer (some ⟨b, 0, none⟩), .agg (mc m s).toArray, .int .i32 86] w (WPost (cL cVote) w0 w b done m.votes) := by
  have hr0 := Row.new w 72 (mc m s)
  have hW0 := hW.below (below_alloc w (.cells (mc m s).toArray 72))
  have hu0 : UFr b w (w.alloc (.cells (mc m s).toArray 72)) := UFr.below (below_alloc w _)
  have c0 := hr0.cell (j := 19) rfl
  have hK := wvotes_any w0 _ b done _ m.votes hW0 hs.v
  go_enter Tryz.func121, Tryz.ntmps121
  go_wp2_with fail
  refine hK.mono ?_
  rintro e w1 ⟨hu1, hb1, ⟨ho1, rfl⟩ | ⟨ho1, rfl, hW1⟩⟩
  · go_wp2_with fail
    exact ⟨rfl, WPost.no (hu0.trans hu1) hb1 ho1⟩
  go_wp2_with fail
  go_end0
  exact WPost.yes (hu0.trans hu1) ho1 hW1
set_option maxHeartbeats 1000000 in
theorem wfield_12 (w0 w : World) (b : Nat) (done : List Int) (m : PMsg) (s : SV) (hW : WS w0 w b done) (hs : SOk Any w0 m s) :
    Calls Tryz.prog 121 #[.pointer (some ⟨b, 0, none⟩), .agg (mc m s).toArray, .int .i32 78] w (WPost cI w0 w b done m.order) := by
  have hr0 := Row.new w 72 (mc m s)
  have hW0 := hW.below (below_alloc w (.cells (mc m s).toArray 72))
  have hu0 : UFr b w (w.alloc (.cells (mc m s).toArray 72)) := UFr.below (below_alloc w _)
  have c0 := hr0.cell (j := 20) rfl
  have hK := wints_any w0 _ b done _ m.order hW0 hs.n
  go_enter Tryz.func121, Tryz.ntmps121
  go_wp2_with fail
  refine hK.mono ?_
  rintro e w1 ⟨hu1, hb1, ⟨ho1, rfl⟩ | ⟨ho1, rfl, hW1⟩⟩
  · go_wp2_with fail
    exact ⟨rfl, WPost.no (hu0.trans hu1) hb1 ho1⟩
  go_wp2_with fail
  go_end0
  exact WPost.yes (hu0.trans hu1) ho1 hW1
set_option maxHeartbeats 1000000 in
theorem wfield_13 (w0 w : World) (b : Nat) (done : List Int) (m : PMsg) (s : SV) (hW : WS w0 w b done) (hs : SOk Any w0 m s) :
    Calls Tryz.prog 121 #[.pointer (some ⟨b, 0, none⟩), .agg (mc m s).toArray, .int .i32 80] w (WPost (cL cReq) w0 w b done m.picks) := by
  have hr0 := Row.new w 72 (mc m s)
  have hW0 := hW.below (below_alloc w (.cells (mc m s).toArray 72))
  have hu0 : UFr b w (w.alloc (.cells (mc m s).toArray 72)) := UFr.below (below_alloc w _)
  have c0 := hr0.cell (j := 21) rfl
  have hK := wreqs_any w0 _ b done _ m.picks hW0 hs.p
  go_enter Tryz.func121, Tryz.ntmps121
  go_wp2_with fail
  refine hK.mono ?_
  rintro e w1 ⟨hu1, hb1, ⟨ho1, rfl⟩ | ⟨ho1, rfl, hW1⟩⟩
  · go_wp2_with fail
    exact ⟨rfl, WPost.no (hu0.trans hu1) hb1 ho1⟩
  go_wp2_with fail
  go_end0
  exact WPost.yes (hu0.trans hu1) ho1 hW1
set_option maxHeartbeats 1000000 in
theorem wfield_14 (w0 w : World) (b : Nat) (done : List Int) (m : PMsg) (s : SV) (hW : WS w0 w b done) (hs : SOk Any w0 m s) :
    Calls Tryz.prog 121 #[.pointer (some ⟨b, 0, none⟩), .agg (mc m s).toArray, .int .i32 76] w (WPost (cL cRep) w0 w b done m.reps) := by
  have hr0 := Row.new w 72 (mc m s)
  have hW0 := hW.below (below_alloc w (.cells (mc m s).toArray 72))
  have hu0 : UFr b w (w.alloc (.cells (mc m s).toArray 72)) := UFr.below (below_alloc w _)
  have c0 := hr0.cell (j := 22) rfl
  have hK := wreps_any w0 _ b done _ m.reps hW0 hs.l
  go_enter Tryz.func121, Tryz.ntmps121
  go_wp2_with fail
  refine hK.mono ?_
  rintro e w1 ⟨hu1, hb1, ⟨ho1, rfl⟩ | ⟨ho1, rfl, hW1⟩⟩
  · go_wp2_with fail
    exact ⟨rfl, WPost.no (hu0.trans hu1) hb1 ho1⟩
  go_wp2_with fail
  go_end0
  exact WPost.yes (hu0.trans hu1) ho1 hW1
/-- field. -/
theorem wfield_any (w0 w : World) (b : Nat) (done : List Int) (m : PMsg) (s : SV) (hW : WS w0 w b done) (hs : SOk Any w0 m s) {i : Nat} (h : i < 15) :
    Calls Tryz.prog 121 #[.pointer (some ⟨b, 0, none⟩), .agg (mc m s).toArray, .int .i32 (lt i)] w (WPost (cF i) w0 w b done (get m i)) := by
  rcases lt15 h with rfl | rfl | rfl | rfl | rfl | rfl | rfl | rfl | rfl | rfl | rfl | rfl | rfl | rfl | rfl
  · exact wfield_0 w0 w b done m s hW hs
  · exact wfield_1 w0 w b done m s hW hs
  · exact wfield_2 w0 w b done m s hW hs
  · exact wfield_3 w0 w b done m s hW hs
  · exact wfield_4 w0 w b done m s hW hs
  · exact wfield_5 w0 w b done m s hW hs
  · exact wfield_6 w0 w b done m s hW hs
  · exact wfield_7 w0 w b done m s hW hs
  · exact wfield_8 w0 w b done m s hW hs
  · exact wfield_9 w0 w b done m s hW hs
  · exact wfield_10 w0 w b done m s hW hs
  · exact wfield_11 w0 w b done m s hW hs
  · exact wfield_12 w0 w b done m s hW hs
  · exact wfield_13 w0 w b done m s hW hs
  · exact wfield_14 w0 w b done m s hW hs
end
end Go.Proofs.YtgbfmccecnfooaaGreatDoor
