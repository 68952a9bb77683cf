/- The walks over package msg: reports written. (Laid by mk5w.py.) -/
import Derived.Test.YtgjepofinpmcpaaGreatDoorMAF
set_option linter.unusedSimpArgs false
set_option linter.unusedVariables false
namespace Go.Proofs.YtgjepofinpmcpaaGreatDoor
section
open Go.RowKit Oct
set_option maxHeartbeats 1000000 in
theorem zRr (w0 w : World) (b : Nat) (done : List Int) (r : List Value) (x : zCo) (hW : WS w0 w b done) (hR : zBy Any w0 r x) :
    Calls Tryz.prog 129 #[.pointer (some ⟨b, 0, none⟩), .agg r.toArray] w (zAe zAo w0 w b done x) := by
  obtain ⟨vo, vg, vc, rfl, h1, h2, h3⟩ := hR
  have hr0 := Row.new w 107 [.int .i64 x.1, .int .i64 x.2.1.1, .int .i64 x.2.1.2, .int .i64 x.2.2.1.1, .int .i64 x.2.2.1.2.1, vo, vg, vc]
  have hne := zDm hW
  have hW0 := hW.below (zA0 w (.cells [.int .i64 x.1, .int .i64 x.2.1.1, .int .i64 x.2.1.2, .int .i64 x.2.2.1.1, .int .i64 x.2.2.1.2.1, vo, vg, vc].toArray 107))
  have hu0 : UFr b w (w.alloc (.cells [.int .i64 x.1, .int .i64 x.2.1.1, .int .i64 x.2.1.2, .int .i64 x.2.2.1.1, .int .i64 x.2.2.1.2.1, vo, vg, vc].toArray 107)) := UFr.below (zA0 w _)
  go_enter Tryz.func129, Tryz.ntmps129
  have c0 := hr0.cell (j := 0) rfl
  go_wp2_with fail
  refine (zAv w0 _ b _ x.1 hW0).mono ?_
  rintro e w1 ⟨hu1, hb1, ⟨ho1, rfl⟩ | ⟨ho1, rfl, hW1⟩⟩
  · go_wp2_with fail
    exact ⟨rfl, zAe.no ((hu0).trans hu1) hb1 (by simp [zAo, cP, ho1])⟩
  have hr1 := hr0.ufr hu1 hne (by decide)
  have ho1 := (show Hid (_ = true) from ho1)
  go_wp2_with (refine zC4 rfl _ _ rfl w.heap.size 1 rfl _ _ hr1 [.int .i64 x.2.1.1, .int .i64 x.2.1.2] rfl _ Tryz.underlying32 rfl (by kernel_rfl) ?_)
  refine (zFg w0 _ b _ [.int .i64 x.2.1.1, .int .i64 x.2.1.2] x.2.1 hW1 rfl).mono ?_
  rintro e w2 ⟨hu2, hb2, ⟨ho2, rfl⟩ | ⟨ho2, rfl, hW2⟩⟩
  · go_wp2_with fail
    exact ⟨rfl, zAe.no (((hu0).trans hu1).trans hu2) hb2 (by simp [zAo, cP, ho1, ho2])⟩
  have hr2 := hr1.ufr hu2 hne (by decide)
  have ho2 := (show Hid (_ = true) from ho2)
  go_wp2_with (refine zC4 rfl _ _ rfl w.heap.size 3 rfl _ _ hr2 [.int .i64 x.2.2.1.1, .int .i64 x.2.2.1.2.1, vo, vg] rfl _ Tryz.underlying34 rfl (by kernel_rfl) ?_)
  refine (zD6 w0 _ b _ [.int .i64 x.2.2.1.1, .int .i64 x.2.2.1.2.1, vo, vg] x.2.2.1 hW2 ⟨vo, vg, rfl, h1, h2⟩).mono ?_
  rintro e w3 ⟨hu3, hb3, ⟨ho3, rfl⟩ | ⟨ho3, rfl, hW3⟩⟩
  · go_wp2_with fail
    exact ⟨rfl, zAe.no ((((hu0).trans hu1).trans hu2).trans hu3) hb3 (by simp [zAo, cP, ho1, ho2, ho3])⟩
  have hr3 := hr2.ufr hu3 hne (by decide)
  have ho3 := (show Hid (_ = true) from ho3)
  have c3 := hr3.cell (j := 7) rfl
  go_wp2_with fail
  refine (zEz w0 _ b _ _ x.2.2.2 hW3 h3).mono ?_
  rintro e w4 ⟨hu4, hb4, ⟨ho4, rfl⟩ | ⟨ho4, rfl, hW4⟩⟩
  · go_wp2_with fail
    exact ⟨rfl, zAe.no (((((hu0).trans hu1).trans hu2).trans hu3).trans hu4) hb4 (by simp [zAo, cP, ho1, ho2, ho3, ho4])⟩
  go_wp2_with fail
  go_end0
  refine zAe.yes (((((hu0).trans hu1).trans hu2).trans hu3).trans hu4) ?_ ?_
  · simp [zAo, cP, ho1.out, ho2.out, ho3.out, ho4]
  · have e : done ++ (zAo).wr x = done ++ cN.wr x.1 ++ zI1.wr x.2.1 ++ zBc.wr x.2.2.1 ++ (cL zAi).wr x.2.2.2 := by simp [zAo, cP]
    rw [e]
    exact hW4
set_option maxHeartbeats 1000000 in
theorem zR2 (w0 w : World) (b : Nat) (done : List Int) (ao : Option Addr) (cap : Nat) (ys : List Int) (hW : WS w0 w b done) (hl : ys = []) :
    Calls Tryz.prog 97 #[.pointer (some ⟨b, 0, none⟩), .slice ao 0 cap, .func (.func 57) #[.pointer (some ⟨b, 0, none⟩)] #[]] w (zAe (cL cN) w0 w b done ys) := by
  subst hl
  go_enter Tryz.func97, Tryz.ntmps97
  go_wp2_with fail
  refine (zAv w0 _ b _ 0 hW).mono ?_
  rintro e w1 ⟨hu1, hb1, ⟨ho1, rfl⟩ | ⟨ho1, rfl, hW1⟩⟩
  · exact absurd ho1 (by decide)
  go_wp2_with fail
  refine wp_loop_rounds 1 ?_; rw [rounds_succ]
  go_wp2_with fail
  go_end0
  have e : (cL cN).wr [] = cN.wr 0 := by simp [cL, wrN, cN]
  rw [← e] at hW1
  exact zAe.yes hu1 rfl hW1
set_option maxHeartbeats 1000000 in
theorem zPw (w0 w : World) (b : Nat) (done : List Int) (bb off cap : Nat) (ys : List Int) (hW : WS w0 w b done) (hl : 0 < ys.length) (h64 : ys.length ≤ 64) (hc : ys.length ≤ cap) (hbb : bb < w0.heap.size)
    (hx : ∀ (i : Nat) (a : Int), ys[i]? = some a → ∃ r, r.length = 1 ∧ w0.rangeAt bb (off + i * 1) r ∧ zG2 Any w0 r a) :
    Calls Tryz.prog 97 #[.pointer (some ⟨b, 0, none⟩), .slice (some ⟨bb, off, none⟩) ys.length cap, .func (.func 57) #[.pointer (some ⟨b, 0, none⟩)] #[]] w (zAe (cL cN) w0 w b done ys) := by
  go_enter Tryz.func97, Tryz.ntmps97
  go_wp2_with fail
  refine (zAv w0 _ b _ (ys.length : Int) hW).mono ?_
  rintro e w1 ⟨hu1, hb1, ⟨ho1, rfl⟩ | ⟨ho1, rfl, hW1⟩⟩
  · exact absurd ho1 (by show ¬ okI _ = false; rw [zBm (by omega) (by omega)]; decide)
  clear ho1
  have HX := (show Hid (∀ (i : Nat) (a : Int), ys[i]? = some a → ∃ r, r.length = 1 ∧ w0.rangeAt bb (off + i * 1) r ∧ zG2 Any w0 r a) from hx)
  clear hx
  go_wp2_with fail
  go_loopw [18] (fun i wr => ∃ q : Nat, q ≤ ys.length ∧ i = .int .i64 q ∧ Hid ((ys.take q).all cN.ok = true) ∧ WS w0 wr b (done ++ cN.wr (ys.length : Int) ++ wrN cN (ys.take q)) ∧ UFr b w wr) (fun i _ => ys.length - (intOf i).toNat)
  case atStart => exact ⟨0, by omega, rfl, rfl, by simpa [wrN] using hW1, hu1⟩
  case round =>
    obtain ⟨q, hq, rfl, hall, hWr, hur⟩ := hrel
    by_cases hql : q < ys.length
    · obtain ⟨a, ha⟩ : ∃ a, ys[q]? = some a := ⟨_, List.getElem?_eq_getElem hql⟩
      obtain ⟨r, hrl, hrng, hRa⟩ := HX.out q a ha
      have hrng := World.rangeAt.blk hrng (hWr.bel.block bb hbb)
      have HA := (show Hid (ys[q]? = some a) from ha)
      clear ha
      have hRa : r = [.int .i64 a] := hRa
      subst hRa
      have cx := hrng 0 _ rfl
      simp only [Nat.mul_one, Nat.add_zero] at cx
      clear hrng
      go_wp2_with fail
      refine (zAv w0 _ b _ a hWr).mono ?_
      rintro e w3 ⟨hu3, hb3, ⟨ho3, rfl⟩ | ⟨ho3, rfl, hW3⟩⟩
      · go_wp2_with fail
        exact ⟨rfl, zAe.no ((hur).trans hu3) hb3 (zIk HA.out ho3)⟩
      have HO := (show Hid (cN.ok a = true) from ho3)
      clear ho3
      go_wp2_with fail
      go_roundw
      case rel => exact ⟨q + 1, by omega, by go_num, zIi HA.out hall.out HO.out, by rw [zG8 HA.out, ← List.append_assoc]; exact hW3, (hur).trans hu3⟩
      case measure => simp [intOf]; omega
    · obtain rfl : q = ys.length := by omega
      have hall := hall.out
      rw [List.take_length] at hall hWr
      have HO := (show Hid ((cL cN).ok ys = true) from zHk h64 hall)
      clear hall
      go_wp2_with fail
      go_end0
      exact zAe.yes hur HO.out (by rw [zIl, ← List.append_assoc]; exact hWr)
theorem zSg (w0 w : World) (b : Nat) (done : List Int) (v : Value) (ys : List Int) (hW : WS w0 w b done) (hR : RL zG2 1 Any w0 v ys) :
    Calls Tryz.prog 97 #[.pointer (some ⟨b, 0, none⟩), v, .func (.func 57) #[.pointer (some ⟨b, 0, none⟩)] #[]] w (zAe (cL cN) w0 w b done ys) := by
  by_cases h64 : (64 : Int) < (ys.length : Int)
  · obtain ⟨ao, cap, rfl, hc⟩ := hR.form
    have HO : Hid ((cL cN).ok ys = false) := zIh (by omega)
    go_enter Tryz.func97, Tryz.ntmps97
    go_wp2_with fail
    exact ⟨rfl, zAe.no (UFr.refl _ _) hW.bel HO.out⟩
  · by_cases hl : 0 < ys.length
    · obtain ⟨bb, off, cap, rfl, h1, h2, _, h4, h5⟩ := hR.at hl
      exact zPw w0 w b done bb off cap ys hW hl (by omega) h1 h4 h5
    · obtain rfl : ys = [] := List.eq_nil_of_length_eq_zero (by omega)
      obtain ⟨ao, cap, rfl, hc⟩ := hR.form
      exact zR2 w0 w b done ao cap [] hW rfl
set_option maxHeartbeats 1000000 in
theorem zQj (w0 w : World) (b : Nat) (done : List Int) (ao : Option Addr) (cap : Nat) (ys : List zB3) (hW : WS w0 w b done) (hl : ys = []) :
    Calls Tryz.prog 98 #[.pointer (some ⟨b, 0, none⟩), .slice ao 0 cap, .func (.func 93) #[.pointer (some ⟨b, 0, none⟩)] #[]] w (zAe (cL zBc) w0 w b done ys) := by
  subst hl
  go_enter Tryz.func98, Tryz.ntmps98
  go_wp2_with fail
  refine (zAv w0 _ b _ 0 hW).mono ?_
  rintro e w1 ⟨hu1, hb1, ⟨ho1, rfl⟩ | ⟨ho1, rfl, hW1⟩⟩
  · exact absurd ho1 (by decide)
  go_wp2_with fail
  refine wp_loop_rounds 1 ?_; rw [rounds_succ]
  go_wp2_with fail
  go_end0
  have e : (cL zBc).wr [] = cN.wr 0 := by simp [cL, wrN, cN]
  rw [← e] at hW1
  exact zAe.yes hu1 rfl hW1
set_option maxHeartbeats 1000000 in
theorem zRh (w0 w : World) (b : Nat) (done : List Int) (bb off cap : Nat) (ys : List zB3) (hW : WS w0 w b done) (hl : 0 < ys.length) (h64 : ys.length ≤ 64) (hc : ys.length ≤ cap) (hbb : bb < w0.heap.size)
    (hx : ∀ (i : Nat) (a : zB3), ys[i]? = some a → ∃ r, r.length = 4 ∧ w0.rangeAt bb (off + i * 4) r ∧ zCs Any w0 r a) :
    Calls Tryz.prog 98 #[.pointer (some ⟨b, 0, none⟩), .slice (some ⟨bb, off, none⟩) ys.length cap, .func (.func 93) #[.pointer (some ⟨b, 0, none⟩)] #[]] w (zAe (cL zBc) w0 w b done ys) := by
  go_enter Tryz.func98, Tryz.ntmps98
  go_wp2_with fail
  refine (zAv w0 _ b _ (ys.length : Int) hW).mono ?_
  rintro e w1 ⟨hu1, hb1, ⟨ho1, rfl⟩ | ⟨ho1, rfl, hW1⟩⟩
  · exact absurd ho1 (by show ¬ okI _ = false; rw [zBm (by omega) (by omega)]; decide)
  clear ho1
  have HX := (show Hid (∀ (i : Nat) (a : zB3), ys[i]? = some a → ∃ r, r.length = 4 ∧ w0.rangeAt bb (off + i * 4) r ∧ zCs Any w0 r a) from hx)
  clear hx
  go_wp2_with fail
  go_loopw [18] (fun i wr => ∃ q : Nat, q ≤ ys.length ∧ i = .int .i64 q ∧ Hid ((ys.take q).all zBc.ok = true) ∧ WS w0 wr b (done ++ cN.wr (ys.length : Int) ++ wrN zBc (ys.take q)) ∧ UFr b w wr) (fun i _ => ys.length - (intOf i).toNat)
  case atStart => exact ⟨0, by omega, rfl, rfl, by simpa [wrN] using hW1, hu1⟩
  case round =>
    obtain ⟨q, hq, rfl, hall, hWr, hur⟩ := hrel
    by_cases hql : q < ys.length
    · obtain ⟨a, ha⟩ : ∃ a, ys[q]? = some a := ⟨_, List.getElem?_eq_getElem hql⟩
      obtain ⟨r, hrl, hrng, hRa⟩ := HX.out q a ha
      have hrng := World.rangeAt.blk hrng (hWr.bel.block bb hbb)
      have HA := (show Hid (ys[q]? = some a) from ha)
      clear ha
      have hb0 := zA0 wr (.cells ([.int .i64 0, .int .i64 0, .slice none 0 0, .slice none 0 0] : List Value).toArray 34)
      have hrow0 := Row.new wr 34 [.int .i64 0, .int .i64 0, .slice none 0 0, .slice none 0 0]
      have hrl' : ([.int .i64 0, .int .i64 0, .slice none 0 0, .slice none 0 0] : List Value).length = r.length := hrl.symm
      have hr1 : ∀ v ∈ r, v.oneCell' = true := zBq hRa
      have hi : (Tryz.prog.info? 34).map (·.size) = some r.length := by rw [hrl]; kernel_rfl
      go_wp2_with (first
        | (refine wpList_load_mid rfl _ _ rfl bb (off + q * 4) rfl r _ hrng Tryz.underlying34 rfl hi ?_)
        | (refine zA7 rfl _ _ _ rfl wr.heap.size r rfl rfl _ _ hrow0 hrl' hi hr1 ?_; intro w2 hrw hg2)
        | (refine zAa rfl _ _ rfl wr.heap.size rfl _ _ hrw.out _ Tryz.underlying34 rfl hi ?_))
      have hb2 : Below wr.heap.size wr w2 := hb0.trans (zA5 hg2 (by simp) (fun k hk => by cases hk; exact zN))
      refine (zD6 w0 _ b _ r a (hWr.below hb2) hRa).mono ?_
      rintro e w3 ⟨hu3, hb3, ⟨ho3, rfl⟩ | ⟨ho3, rfl, hW3⟩⟩
      · go_wp2_with fail
        exact ⟨rfl, zAe.no ((hur.trans (UFr.below hb2)).trans hu3) hb3 (zIk HA.out ho3)⟩
      have HO := (show Hid (zBc.ok a = true) from ho3)
      clear ho3
      go_wp2_with fail
      go_roundw
      case rel => exact ⟨q + 1, by omega, by go_num, zIi HA.out hall.out HO.out, by rw [zG8 HA.out, ← List.append_assoc]; exact hW3, (hur.trans (UFr.below hb2)).trans hu3⟩
      case measure => simp [intOf]; omega
    · obtain rfl : q = ys.length := by omega
      have hall := hall.out
      rw [List.take_length] at hall hWr
      have HO := (show Hid ((cL zBc).ok ys = true) from zHk h64 hall)
      clear hall
      go_wp2_with fail
      go_end0
      exact zAe.yes hur HO.out (by rw [zIl, ← List.append_assoc]; exact hWr)
theorem zUu (w0 w : World) (b : Nat) (done : List Int) (v : Value) (ys : List zB3) (hW : WS w0 w b done) (hR : RL zCs 4 Any w0 v ys) :
    Calls Tryz.prog 98 #[.pointer (some ⟨b, 0, none⟩), v, .func (.func 93) #[.pointer (some ⟨b, 0, none⟩)] #[]] w (zAe (cL zBc) w0 w b done ys) := by
  by_cases h64 : (64 : Int) < (ys.length : Int)
  · obtain ⟨ao, cap, rfl, hc⟩ := hR.form
    have HO : Hid ((cL zBc).ok ys = false) := zIh (by omega)
    go_enter Tryz.func98, Tryz.ntmps98
    go_wp2_with fail
    exact ⟨rfl, zAe.no (UFr.refl _ _) hW.bel HO.out⟩
  · by_cases hl : 0 < ys.length
    · obtain ⟨bb, off, cap, rfl, h1, h2, _, h4, h5⟩ := hR.at hl
      exact zRh w0 w b done bb off cap ys hW hl (by omega) h1 h4 h5
    · obtain rfl : ys = [] := List.eq_nil_of_length_eq_zero (by omega)
      obtain ⟨ao, cap, rfl, hc⟩ := hR.form
      exact zQj w0 w b done ao cap [] hW rfl
set_option maxHeartbeats 1000000 in
theorem zO4 (w0 w : World) (b : Nat) (done : List Int) (ao : Option Addr) (cap : Nat) (ys : List zCo) (hW : WS w0 w b done) (hl : ys = []) :
    Calls Tryz.prog 128 #[.pointer (some ⟨b, 0, none⟩), .slice ao 0 cap, .func (.func 129) #[.pointer (some ⟨b, 0, none⟩)] #[]] w (zAe (cL zAo) w0 w b done ys) := by
  subst hl
  go_enter Tryz.func128, Tryz.ntmps128
  go_wp2_with fail
  refine (zAv w0 _ b _ 0 hW).mono ?_
  rintro e w1 ⟨hu1, hb1, ⟨ho1, rfl⟩ | ⟨ho1, rfl, hW1⟩⟩
  · exact absurd ho1 (by decide)
  go_wp2_with fail
  refine wp_loop_rounds 1 ?_; rw [rounds_succ]
  go_wp2_with fail
  go_end0
  have e : (cL zAo).wr [] = cN.wr 0 := by simp [cL, wrN, cN]
  rw [← e] at hW1
  exact zAe.yes hu1 rfl hW1
set_option maxHeartbeats 1000000 in
theorem zO6 (w0 w : World) (b : Nat) (done : List Int) (bb off cap : Nat) (ys : List zCo) (hW : WS w0 w b done) (hl : 0 < ys.length) (h64 : ys.length ≤ 64) (hc : ys.length ≤ cap) (hbb : bb < w0.heap.size)
    (hx : ∀ (i : Nat) (a : zCo), ys[i]? = some a → ∃ r, r.length = 8 ∧ w0.rangeAt bb (off + i * 8) r ∧ zBy Any w0 r a) :
    Calls Tryz.prog 128 #[.pointer (some ⟨b, 0, none⟩), .slice (some ⟨bb, off, none⟩) ys.length cap, .func (.func 129) #[.pointer (some ⟨b, 0, none⟩)] #[]] w (zAe (cL zAo) w0 w b done ys) := by
  go_enter Tryz.func128, Tryz.ntmps128
  go_wp2_with fail
  refine (zAv w0 _ b _ (ys.length : Int) hW).mono ?_
  rintro e w1 ⟨hu1, hb1, ⟨ho1, rfl⟩ | ⟨ho1, rfl, hW1⟩⟩
  · exact absurd ho1 (by show ¬ okI _ = false; rw [zBm (by omega) (by omega)]; decide)
  clear ho1
  have HX := (show Hid (∀ (i : Nat) (a : zCo), ys[i]? = some a → ∃ r, r.length = 8 ∧ w0.rangeAt bb (off + i * 8) r ∧ zBy Any w0 r a) from hx)
  clear hx
  go_wp2_with fail
  go_loopw [18] (fun i wr => ∃ q : Nat, q ≤ ys.length ∧ i = .int .i64 q ∧ Hid ((ys.take q).all zAo.ok = true) ∧ WS w0 wr b (done ++ cN.wr (ys.length : Int) ++ wrN zAo (ys.take q)) ∧ UFr b w wr) (fun i _ => ys.length - (intOf i).toNat)
  case atStart => exact ⟨0, by omega, rfl, rfl, by simpa [wrN] using hW1, hu1⟩
  case round =>
    obtain ⟨q, hq, rfl, hall, hWr, hur⟩ := hrel
    by_cases hql : q < ys.length
    · obtain ⟨a, ha⟩ : ∃ a, ys[q]? = some a := ⟨_, List.getElem?_eq_getElem hql⟩
      obtain ⟨r, hrl, hrng, hRa⟩ := HX.out q a ha
      have hrng := World.rangeAt.blk hrng (hWr.bel.block bb hbb)
      have HA := (show Hid (ys[q]? = some a) from ha)
      clear ha
      have hb0 := zA0 wr (.cells ([.int .i64 0, .int .i64 0, .int .i64 0, .int .i64 0, .int .i64 0, .slice none 0 0, .slice none 0 0, .slice none 0 0] : List Value).toArray 107)
      have hrow0 := Row.new wr 107 [.int .i64 0, .int .i64 0, .int .i64 0, .int .i64 0, .int .i64 0, .slice none 0 0, .slice none 0 0, .slice none 0 0]
      have hrl' : ([.int .i64 0, .int .i64 0, .int .i64 0, .int .i64 0, .int .i64 0, .slice none 0 0, .slice none 0 0, .slice none 0 0] : List Value).length = r.length := hrl.symm
      have hr1 : ∀ v ∈ r, v.oneCell' = true := zC8 hRa
      have hi : (Tryz.prog.info? 107).map (·.size) = some r.length := by rw [hrl]; kernel_rfl
      go_wp2_with (first
        | (refine wpList_load_mid rfl _ _ rfl bb (off + q * 8) rfl r _ hrng Tryz.underlying107 rfl hi ?_)
        | (refine zA7 rfl _ _ _ rfl wr.heap.size r rfl rfl _ _ hrow0 hrl' hi hr1 ?_; intro w2 hrw hg2)
        | (refine zAa rfl _ _ rfl wr.heap.size rfl _ _ hrw.out _ Tryz.underlying107 rfl hi ?_))
      have hb2 : Below wr.heap.size wr w2 := hb0.trans (zA5 hg2 (by simp) (fun k hk => by cases hk; exact zN))
      refine (zRr w0 _ b _ r a (hWr.below hb2) hRa).mono ?_
      rintro e w3 ⟨hu3, hb3, ⟨ho3, rfl⟩ | ⟨ho3, rfl, hW3⟩⟩
      · go_wp2_with fail
        exact ⟨rfl, zAe.no ((hur.trans (UFr.below hb2)).trans hu3) hb3 (zIk HA.out ho3)⟩
      have HO := (show Hid (zAo.ok a = true) from ho3)
      clear ho3
      go_wp2_with fail
      go_roundw
      case rel => exact ⟨q + 1, by omega, by go_num, zIi HA.out hall.out HO.out, by rw [zG8 HA.out, ← List.append_assoc]; exact hW3, (hur.trans (UFr.below hb2)).trans hu3⟩
      case measure => simp [intOf]; omega
    · obtain rfl : q = ys.length := by omega
      have hall := hall.out
      rw [List.take_length] at hall hWr
      have HO := (show Hid ((cL zAo).ok ys = true) from zHk h64 hall)
      clear hall
      go_wp2_with fail
      go_end0
      exact zAe.yes hur HO.out (by rw [zIl, ← List.append_assoc]; exact hWr)
theorem zPu (w0 w : World) (b : Nat) (done : List Int) (v : Value) (ys : List zCo) (hW : WS w0 w b done) (hR : RL zBy 8 Any w0 v ys) :
    Calls Tryz.prog 128 #[.pointer (some ⟨b, 0, none⟩), v, .func (.func 129) #[.pointer (some ⟨b, 0, none⟩)] #[]] w (zAe (cL zAo) w0 w b done ys) := by
  by_cases h64 : (64 : Int) < (ys.length : Int)
  · obtain ⟨ao, cap, rfl, hc⟩ := hR.form
    have HO : Hid ((cL zAo).ok ys = false) := zIh (by omega)
    go_enter Tryz.func128, Tryz.ntmps128
    go_wp2_with fail
    exact ⟨rfl, zAe.no (UFr.refl _ _) hW.bel HO.out⟩
  · by_cases hl : 0 < ys.length
    · obtain ⟨bb, off, cap, rfl, h1, h2, _, h4, h5⟩ := hR.at hl
      exact zO6 w0 w b done bb off cap ys hW hl (by omega) h1 h4 h5
    · obtain rfl : ys = [] := List.eq_nil_of_length_eq_zero (by omega)
      obtain ⟨ao, cap, rfl, hc⟩ := hR.form
      exact zO4 w0 w b done ao cap [] hW rfl
end
section
open Go.RowKit Oct
set_option maxHeartbeats 1000000 in
theorem zO1 (w0 w : World) (b : Nat) (done : List Int) (r : List Value) (x : zF8) (hW : WS w0 w b done) (hR : zDo Any w0 r x) :
    Calls Tryz.prog 100 #[.pointer (some ⟨b, 0, none⟩), .agg r.toArray] w (zAe zBr w0 w b done x) := by
  obtain ⟨vd, vs, vp, vg, rfl, h1, h2, h3, h4⟩ := hR
  have hr0 := Row.new w 68 [.int .i64 x.1.1, .int .i64 x.1.2, .int .i64 x.2.1, .int .i64 x.2.2.1, vd, vs, vp, vg]
  have hne := zDm hW
  have hW0 := hW.below (zA0 w (.cells [.int .i64 x.1.1, .int .i64 x.1.2, .int .i64 x.2.1, .int .i64 x.2.2.1, vd, vs, vp, vg].toArray 68))
  have hu0 : UFr b w (w.alloc (.cells [.int .i64 x.1.1, .int .i64 x.1.2, .int .i64 x.2.1, .int .i64 x.2.2.1, vd, vs, vp, vg].toArray 68)) := UFr.below (zA0 w _)
  go_enter Tryz.func100, Tryz.ntmps100
  go_wp2_with (refine zC4 rfl _ _ rfl w.heap.size 0 rfl _ _ hr0 [.int .i64 x.1.1, .int .i64 x.1.2] rfl _ Tryz.underlying32 rfl (by kernel_rfl) ?_)
  refine (zFg w0 _ b _ [.int .i64 x.1.1, .int .i64 x.1.2] x.1 hW0 rfl).mono ?_
  rintro e w1 ⟨hu1, hb1, ⟨ho1, rfl⟩ | ⟨ho1, rfl, hW1⟩⟩
  · go_wp2_with fail
    exact ⟨rfl, zAe.no ((hu0).trans hu1) hb1 (by simp [zBr, cP, ho1])⟩
  have hr1 := hr0.ufr hu1 hne (by decide)
  have ho1 := (show Hid (_ = true) from ho1)
  have c1 := hr1.cell (j := 2) rfl
  go_wp2_with fail
  refine (zAv w0 _ b _ x.2.1 hW1).mono ?_
  rintro e w2 ⟨hu2, hb2, ⟨ho2, rfl⟩ | ⟨ho2, rfl, hW2⟩⟩
  · go_wp2_with fail
    exact ⟨rfl, zAe.no (((hu0).trans hu1).trans hu2) hb2 (by simp [zBr, cP, ho1, ho2])⟩
  have hr2 := hr1.ufr hu2 hne (by decide)
  have ho2 := (show Hid (_ = true) from ho2)
  have c2 := hr2.cell (j := 3) rfl
  go_wp2_with fail
  refine (zAv w0 _ b _ x.2.2.1 hW2).mono ?_
  rintro e w3 ⟨hu3, hb3, ⟨ho3, rfl⟩ | ⟨ho3, rfl, hW3⟩⟩
  · go_wp2_with fail
    exact ⟨rfl, zAe.no ((((hu0).trans hu1).trans hu2).trans hu3) hb3 (by simp [zBr, cP, ho1, ho2, ho3])⟩
  have hr3 := hr2.ufr hu3 hne (by decide)
  have ho3 := (show Hid (_ = true) from ho3)
  have c3 := hr3.cell (j := 4) rfl
  go_wp2_with fail
  refine (zD1 w0 _ b _ _ x.2.2.2.1 hW3 h1).mono ?_
  rintro e w4 ⟨hu4, hb4, ⟨ho4, rfl⟩ | ⟨ho4, rfl, hW4⟩⟩
  · go_wp2_with fail
    exact ⟨rfl, zAe.no (((((hu0).trans hu1).trans hu2).trans hu3).trans hu4) hb4 (by simp [zBr, cP, ho1, ho2, ho3, ho4])⟩
  have hr4 := hr3.ufr hu4 hne (by decide)
  have ho4 := (show Hid (_ = true) from ho4)
  have c4 := hr4.cell (j := 5) rfl
  go_wp2_with fail
  refine (zEz w0 _ b _ _ x.2.2.2.2.1 hW4 h2).mono ?_
  rintro e w5 ⟨hu5, hb5, ⟨ho5, rfl⟩ | ⟨ho5, rfl, hW5⟩⟩
  · go_wp2_with fail
    exact ⟨rfl, zAe.no ((((((hu0).trans hu1).trans hu2).trans hu3).trans hu4).trans hu5) hb5 (by simp [zBr, cP, ho1, ho2, ho3, ho4, ho5])⟩
  have hr5 := hr4.ufr hu5 hne (by decide)
  have ho5 := (show Hid (_ = true) from ho5)
  have c5 := hr5.cell (j := 6) rfl
  go_wp2_with fail
  refine (zPu w0 _ b _ _ x.2.2.2.2.2.1 hW5 h3).mono ?_
  rintro e w6 ⟨hu6, hb6, ⟨ho6, rfl⟩ | ⟨ho6, rfl, hW6⟩⟩
  · go_wp2_with fail
    exact ⟨rfl, zAe.no (((((((hu0).trans hu1).trans hu2).trans hu3).trans hu4).trans hu5).trans hu6) hb6 (by simp [zBr, cP, ho1, ho2, ho3, ho4, ho5, ho6])⟩
  have hr6 := hr5.ufr hu6 hne (by decide)
  have ho6 := (show Hid (_ = true) from ho6)
  have c6 := hr6.cell (j := 7) rfl
  go_wp2_with fail
  refine (zD1 w0 _ b _ _ x.2.2.2.2.2.2 hW6 h4).mono ?_
  rintro e w7 ⟨hu7, hb7, ⟨ho7, rfl⟩ | ⟨ho7, rfl, hW7⟩⟩
  · go_wp2_with fail
    exact ⟨rfl, zAe.no ((((((((hu0).trans hu1).trans hu2).trans hu3).trans hu4).trans hu5).trans hu6).trans hu7) hb7 (by simp [zBr, cP, ho1, ho2, ho3, ho4, ho5, ho6, ho7])⟩
  go_wp2_with fail
  go_end0
  refine zAe.yes ((((((((hu0).trans hu1).trans hu2).trans hu3).trans hu4).trans hu5).trans hu6).trans hu7) ?_ ?_
  · simp [zBr, cP, ho1.out, ho2.out, ho3.out, ho4.out, ho5.out, ho6.out, ho7]
  · have e : done ++ (zBr).wr x = done ++ zI1.wr x.1 ++ cN.wr x.2.1 ++ cN.wr x.2.2.1 ++ cT.wr x.2.2.2.1 ++ (cL zAi).wr x.2.2.2.2.1 ++ (cL zAo).wr x.2.2.2.2.2.1 ++ cT.wr x.2.2.2.2.2.2 := by simp [zBr, cP]
    rw [e]
    exact hW7
set_option maxHeartbeats 1000000 in
theorem zQt (w0 w : World) (b : Nat) (done : List Int) (ao : Option Addr) (cap : Nat) (ys : List zF8) (hW : WS w0 w b done) (hl : ys = []) :
    Calls Tryz.prog 99 #[.pointer (some ⟨b, 0, none⟩), .slice ao 0 cap, .func (.func 100) #[.pointer (some ⟨b, 0, none⟩)] #[]] w (zAe (cL zBr) w0 w b done ys) := by
  subst hl
  go_enter Tryz.func99, Tryz.ntmps99
  go_wp2_with fail
  refine (zAv w0 _ b _ 0 hW).mono ?_
  rintro e w1 ⟨hu1, hb1, ⟨ho1, rfl⟩ | ⟨ho1, rfl, hW1⟩⟩
  · exact absurd ho1 (by decide)
  go_wp2_with fail
  refine wp_loop_rounds 1 ?_; rw [rounds_succ]
  go_wp2_with fail
  go_end0
  have e : (cL zBr).wr [] = cN.wr 0 := by simp [cL, wrN, cN]
  rw [← e] at hW1
  exact zAe.yes hu1 rfl hW1
set_option maxHeartbeats 1000000 in
theorem zQn (w0 w : World) (b : Nat) (done : List Int) (bb off cap : Nat) (ys : List zF8) (hW : WS w0 w b done) (hl : 0 < ys.length) (h64 : ys.length ≤ 64) (hc : ys.length ≤ cap) (hbb : bb < w0.heap.size)
    (hx : ∀ (i : Nat) (a : zF8), ys[i]? = some a → ∃ r, r.length = 8 ∧ w0.rangeAt bb (off + i * 8) r ∧ zDo Any w0 r a) :
    Calls Tryz.prog 99 #[.pointer (some ⟨b, 0, none⟩), .slice (some ⟨bb, off, none⟩) ys.length cap, .func (.func 100) #[.pointer (some ⟨b, 0, none⟩)] #[]] w (zAe (cL zBr) w0 w b done ys) := by
  go_enter Tryz.func99, Tryz.ntmps99
  go_wp2_with fail
  refine (zAv w0 _ b _ (ys.length : Int) hW).mono ?_
  rintro e w1 ⟨hu1, hb1, ⟨ho1, rfl⟩ | ⟨ho1, rfl, hW1⟩⟩
  · exact absurd ho1 (by show ¬ okI _ = false; rw [zBm (by omega) (by omega)]; decide)
  clear ho1
  have HX := (show Hid (∀ (i : Nat) (a : zF8), ys[i]? = some a → ∃ r, r.length = 8 ∧ w0.rangeAt bb (off + i * 8) r ∧ zDo Any w0 r a) from hx)
  clear hx
  go_wp2_with fail
  go_loopw [18] (fun i wr => ∃ q : Nat, q ≤ ys.length ∧ i = .int .i64 q ∧ Hid ((ys.take q).all zBr.ok = true) ∧ WS w0 wr b (done ++ cN.wr (ys.length : Int) ++ wrN zBr (ys.take q)) ∧ UFr b w wr) (fun i _ => ys.length - (intOf i).toNat)
  case atStart => exact ⟨0, by omega, rfl, rfl, by simpa [wrN] using hW1, hu1⟩
  case round =>
    obtain ⟨q, hq, rfl, hall, hWr, hur⟩ := hrel
    by_cases hql : q < ys.length
    · obtain ⟨a, ha⟩ : ∃ a, ys[q]? = some a := ⟨_, List.getElem?_eq_getElem hql⟩
      obtain ⟨r, hrl, hrng, hRa⟩ := HX.out q a ha
      have hrng := World.rangeAt.blk hrng (hWr.bel.block bb hbb)
      have HA := (show Hid (ys[q]? = some a) from ha)
      clear ha
      have hb0 := zA0 wr (.cells ([.int .i64 0, .int .i64 0, .int .i64 0, .int .i64 0, .slice none 0 0, .slice none 0 0, .slice none 0 0, .slice none 0 0] : List Value).toArray 68)
      have hrow0 := Row.new wr 68 [.int .i64 0, .int .i64 0, .int .i64 0, .int .i64 0, .slice none 0 0, .slice none 0 0, .slice none 0 0, .slice none 0 0]
      have hrl' : ([.int .i64 0, .int .i64 0, .int .i64 0, .int .i64 0, .slice none 0 0, .slice none 0 0, .slice none 0 0, .slice none 0 0] : List Value).length = r.length := hrl.symm
      have hr1 : ∀ v ∈ r, v.oneCell' = true := zCk hRa
      have hi : (Tryz.prog.info? 68).map (·.size) = some r.length := by rw [hrl]; kernel_rfl
      go_wp2_with (first
        | (refine wpList_load_mid rfl _ _ rfl bb (off + q * 8) rfl r _ hrng Tryz.underlying68 rfl hi ?_)
        | (refine zA7 rfl _ _ _ rfl wr.heap.size r rfl rfl _ _ hrow0 hrl' hi hr1 ?_; intro w2 hrw hg2)
        | (refine zAa rfl _ _ rfl wr.heap.size rfl _ _ hrw.out _ Tryz.underlying68 rfl hi ?_))
      have hb2 : Below wr.heap.size wr w2 := hb0.trans (zA5 hg2 (by simp) (fun k hk => by cases hk; exact zN))
      refine (zO1 w0 _ b _ r a (hWr.below hb2) hRa).mono ?_
      rintro e w3 ⟨hu3, hb3, ⟨ho3, rfl⟩ | ⟨ho3, rfl, hW3⟩⟩
      · go_wp2_with fail
        exact ⟨rfl, zAe.no ((hur.trans (UFr.below hb2)).trans hu3) hb3 (zIk HA.out ho3)⟩
      have HO := (show Hid (zBr.ok a = true) from ho3)
      clear ho3
      go_wp2_with fail
      go_roundw
      case rel => exact ⟨q + 1, by omega, by go_num, zIi HA.out hall.out HO.out, by rw [zG8 HA.out, ← List.append_assoc]; exact hW3, (hur.trans (UFr.below hb2)).trans hu3⟩
      case measure => simp [intOf]; omega
    · obtain rfl : q = ys.length := by omega
      have hall := hall.out
      rw [List.take_length] at hall hWr
      have HO := (show Hid ((cL zBr).ok ys = true) from zHk h64 hall)
      clear hall
      go_wp2_with fail
      go_end0
      exact zAe.yes hur HO.out (by rw [zIl, ← List.append_assoc]; exact hWr)
theorem zUa (w0 w : World) (b : Nat) (done : List Int) (v : Value) (ys : List zF8) (hW : WS w0 w b done) (hR : RL zDo 8 Any w0 v ys) :
    Calls Tryz.prog 99 #[.pointer (some ⟨b, 0, none⟩), v, .func (.func 100) #[.pointer (some ⟨b, 0, none⟩)] #[]] w (zAe (cL zBr) w0 w b done ys) := by
  by_cases h64 : (64 : Int) < (ys.length : Int)
  · obtain ⟨ao, cap, rfl, hc⟩ := hR.form
    have HO : Hid ((cL zBr).ok ys = false) := zIh (by omega)
    go_enter Tryz.func99, Tryz.ntmps99
    go_wp2_with fail
    exact ⟨rfl, zAe.no (UFr.refl _ _) hW.bel HO.out⟩
  · by_cases hl : 0 < ys.length
    · obtain ⟨bb, off, cap, rfl, h1, h2, _, h4, h5⟩ := hR.at hl
      exact zQn w0 w b done bb off cap ys hW hl (by omega) h1 h4 h5
    · obtain rfl : ys = [] := List.eq_nil_of_length_eq_zero (by omega)
      obtain ⟨ao, cap, rfl, hc⟩ := hR.form
      exact zQt w0 w b done ao cap [] hW rfl
end
end Go.Proofs.YtgjepofinpmcpaaGreatDoor
