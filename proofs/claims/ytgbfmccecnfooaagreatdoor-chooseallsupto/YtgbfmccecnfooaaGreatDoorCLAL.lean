/- The walks over package msg: records and lists written. (Laid by mk5w.py.) -/
import Derived.Test.YtgbfmccecnfooaaGreatDoorCLAI
import Derived.Test.YtgbfmccecnfooaaGreatDoorCLAJ
set_option linter.unusedSimpArgs false
set_option linter.unusedVariables false
namespace Go.Proofs.YtgbfmccecnfooaaGreatDoor
open Go.RowKit Oct
theorem row_new_ne {w0 w : World} {b : Nat} {done : List Int} (h : WS w0 w b done) : w.heap.size ≠ b := Nat.ne_of_gt h.lt
theorem no_list {α : Type} {c : Cdc α} {ys : List α} {q : Nat} {a : α} (h : ys[q]? = some a) (ho : c.ok a = false) : (cL c).ok ys = false := by
  have hm := List.mem_of_getElem? h
  simp only [cL, Bool.and_eq_false_iff]
  right
  rw [List.all_eq_false]
  exact ⟨a, hm, by simp [ho]⟩
theorem yes_all {α : Type} {c : Cdc α} {ys : List α} {q : Nat} {a : α} (h : ys[q]? = some a) (ha : (ys.take q).all c.ok = true) (ho : c.ok a = true) : (ys.take (q + 1)).all c.ok = true := by
  rw [take_snoc' ys q a h, List.all_append, ha]
  simp [ho]
theorem wrN_take {α : Type} {c : Cdc α} {ys : List α} {q : Nat} {a : α} (h : ys[q]? = some a) : wrN c (ys.take (q + 1)) = wrN c (ys.take q) ++ c.wr a := by
  rw [take_snoc' ys q a h, wrN_app, wrN_one]
theorem list_ok {α : Type} {c : Cdc α} {ys : List α} (h : ys.length ≤ 64) (ha : ys.all c.ok = true) : (cL c).ok ys = true := by simp [cL, h, ha]
theorem list_no {α : Type} {c : Cdc α} {ys : List α} (h : 64 < ys.length) : (cL c).ok ys = false := by
  simp only [cL, Bool.and_eq_false_iff]
  left
  simp
  omega
theorem list_wr {α : Type} (c : Cdc α) (ys : List α) : (cL c).wr ys = cN.wr (ys.length : Int) ++ wrN c ys := rfl
/-- A ballot's cells. -/
def RBal (r : List Value) (x : PBal) : Prop := r = [.int .i64 x.1, .int .i64 x.2]
set_option maxHeartbeats 400000 in
/-- ballot. -/
theorem wballot_any (w0 w : World) (b : Nat) (done : List Int) (r : List Value) (x : PBal) (hW : WS w0 w b done) (hR : RBal r x) :
    Calls Tryz.prog 149 #[.pointer (some ⟨b, 0, none⟩), .agg r.toArray] w (WPost cBal w0 w b done x) := by
  obtain rfl := hR
  have hr0 := Row.new w 23 [.int .i64 x.1, .int .i64 x.2]
  have hne := row_new_ne hW
  have hW0 := hW.below (below_alloc w (.cells [.int .i64 x.1, .int .i64 x.2].toArray 23))
  have hu0 : UFr b w (w.alloc (.cells [.int .i64 x.1, .int .i64 x.2].toArray 23)) := UFr.below (below_alloc w _)
  go_enter Tryz.func149, Tryz.ntmps149
  go_wp2_with fail
  refine (wnum_any w0 _ b _ x.1 hW0).mono ?_
  rintro e w1 ⟨hu1, hb1, ⟨ho1, rfl⟩ | ⟨ho1, rfl, hW1⟩⟩
  · go_wp2_with fail
    exact ⟨rfl, WPost.no (hu0.trans hu1) hb1 (by simp [cBal, cP, ho1])⟩
  have hr1 := hr0.ufr hu1 hne (by decide)
  have c1 := hr1.cell (j := 1) rfl
  have HO := (show Hid (cN.ok x.1 = true) from ho1)
  clear ho1
  go_wp2_with fail
  refine (wnum_any w0 _ b _ x.2 hW1).mono ?_
  rintro e w2 ⟨hu2, hb2, ⟨ho2, rfl⟩ | ⟨ho2, rfl, hW2⟩⟩
  · go_wp2_with fail
    exact ⟨rfl, WPost.no ((hu0.trans hu1).trans hu2) hb2 (by simp [cBal, cP, ho2])⟩
  go_wp2_with fail
  go_end0
  refine WPost.yes ((hu0.trans hu1).trans hu2) (by simp [cBal, cP, HO.out, ho2]) ?_
  have e : done ++ cBal.wr x = done ++ cN.wr x.1 ++ cN.wr x.2 := by simp [cBal, cP]
  rw [e]
  exact hW2
set_option maxHeartbeats 1000000 in
/-- vote. -/
theorem wvote_any (w0 w : World) (b : Nat) (done : List Int) (r : List Value) (x : PVote) (hW : WS w0 w b done) (hR : RVote Any w0 r x) :
    Calls Tryz.prog 153 #[.pointer (some ⟨b, 0, none⟩), .agg r.toArray] w (WPost cVote w0 w b done x) := by
  obtain ⟨s, rfl, h1⟩ := hR
  have hr0 := Row.new w 42 [.int .i64 x.1, s]
  have hne := row_new_ne hW
  have hW0 := hW.below (below_alloc w (.cells [.int .i64 x.1, s].toArray 42))
  have hu0 : UFr b w (w.alloc (.cells [.int .i64 x.1, s].toArray 42)) := UFr.below (below_alloc w _)
  go_enter Tryz.func153, Tryz.ntmps153
  have c0 := hr0.cell (j := 0) rfl
  go_wp2_with fail
  refine (wnum_any w0 _ b _ x.1 hW0).mono ?_
  rintro e w1 ⟨hu1, hb1, ⟨ho1, rfl⟩ | ⟨ho1, rfl, hW1⟩⟩
  · go_wp2_with fail
    exact ⟨rfl, WPost.no ((hu0).trans hu1) hb1 (by simp [cVote, cP, ho1])⟩
  have hr1 := hr0.ufr hu1 hne (by decide)
  have ho1 := (show Hid (_ = true) from ho1)
  have c1 := hr1.cell (j := 1) rfl
  go_wp2_with fail
  refine (wtext_any w0 _ b _ _ x.2 hW1 h1).mono ?_
  rintro e w2 ⟨hu2, hb2, ⟨ho2, rfl⟩ | ⟨ho2, rfl, hW2⟩⟩
  · go_wp2_with fail
    exact ⟨rfl, WPost.no (((hu0).trans hu1).trans hu2) hb2 (by simp [cVote, cP, ho1, ho2])⟩
  go_wp2_with fail
  go_end0
  refine WPost.yes (((hu0).trans hu1).trans hu2) ?_ ?_
  · simp [cVote, cP, ho1.out, ho2]
  · have e : done ++ (cVote).wr x = done ++ cN.wr x.1 ++ cT.wr x.2 := by simp [cVote, cP]
    rw [e]
    exact hW2
set_option maxHeartbeats 1000000 in
/-- request. -/
theorem wrequest_any (w0 w : World) (b : Nat) (done : List Int) (r : List Value) (x : PReq) (hW : WS w0 w b done) (hR : RReq Any w0 r x) :
    Calls Tryz.prog 150 #[.pointer (some ⟨b, 0, none⟩), .agg r.toArray] w (WPost cReq w0 w b done x) := by
  obtain ⟨vo, vg, rfl, h1, h2⟩ := hR
  have hr0 := Row.new w 62 [.int .i64 x.1, .int .i64 x.2.1, vo, vg]
  have hne := row_new_ne hW
  have hW0 := hW.below (below_alloc w (.cells [.int .i64 x.1, .int .i64 x.2.1, vo, vg].toArray 62))
  have hu0 : UFr b w (w.alloc (.cells [.int .i64 x.1, .int .i64 x.2.1, vo, vg].toArray 62)) := UFr.below (below_alloc w _)
  go_enter Tryz.func150, Tryz.ntmps150
  have c0 := hr0.cell (j := 0) rfl
  go_wp2_with fail
  refine (wnum_any w0 _ b _ x.1 hW0).mono ?_
  rintro e w1 ⟨hu1, hb1, ⟨ho1, rfl⟩ | ⟨ho1, rfl, hW1⟩⟩
  · go_wp2_with fail
    exact ⟨rfl, WPost.no ((hu0).trans hu1) hb1 (by simp [cReq, cP, ho1])⟩
  have hr1 := hr0.ufr hu1 hne (by decide)
  have ho1 := (show Hid (_ = true) from ho1)
  have c1 := hr1.cell (j := 1) rfl
  go_wp2_with fail
  refine (wnum_any w0 _ b _ x.2.1 hW1).mono ?_
  rintro e w2 ⟨hu2, hb2, ⟨ho2, rfl⟩ | ⟨ho2, rfl, hW2⟩⟩
  · go_wp2_with fail
    exact ⟨rfl, WPost.no (((hu0).trans hu1).trans hu2) hb2 (by simp [cReq, cP, ho1, ho2])⟩
  have hr2 := hr1.ufr hu2 hne (by decide)
  have ho2 := (show Hid (_ = true) from ho2)
  have c2 := hr2.cell (j := 2) rfl
  go_wp2_with fail
  refine (wtext_any w0 _ b _ _ x.2.2.1 hW2 h1).mono ?_
  rintro e w3 ⟨hu3, hb3, ⟨ho3, rfl⟩ | ⟨ho3, rfl, hW3⟩⟩
  · go_wp2_with fail
    exact ⟨rfl, WPost.no ((((hu0).trans hu1).trans hu2).trans hu3) hb3 (by simp [cReq, cP, ho1, ho2, ho3])⟩
  have hr3 := hr2.ufr hu3 hne (by decide)
  have ho3 := (show Hid (_ = true) from ho3)
  have c3 := hr3.cell (j := 3) rfl
  go_wp2_with fail
  refine (wtext_any w0 _ b _ _ x.2.2.2 hW3 h2).mono ?_
  rintro e w4 ⟨hu4, hb4, ⟨ho4, rfl⟩ | ⟨ho4, rfl, hW4⟩⟩
  · go_wp2_with fail
    exact ⟨rfl, WPost.no (((((hu0).trans hu1).trans hu2).trans hu3).trans hu4) hb4 (by simp [cReq, cP, ho1, ho2, ho3, ho4])⟩
  go_wp2_with fail
  go_end0
  refine WPost.yes (((((hu0).trans hu1).trans hu2).trans hu3).trans hu4) ?_ ?_
  · simp [cReq, cP, ho1.out, ho2.out, ho3.out, ho4]
  · have e : done ++ (cReq).wr x = done ++ cN.wr x.1 ++ cN.wr x.2.1 ++ cT.wr x.2.2.1 ++ cT.wr x.2.2.2 := by simp [cReq, cP]
    rw [e]
    exact hW4
set_option maxHeartbeats 1000000 in
theorem wvotes_none (w0 w : World) (b : Nat) (done : List Int) (ao : Option Addr) (cap : Nat) (ys : List PVote) (hW : WS w0 w b done) (hl : ys = []) :
    Calls Tryz.prog 152 #[.pointer (some ⟨b, 0, none⟩), .slice ao 0 cap, .func (.func 153) #[.pointer (some ⟨b, 0, none⟩)] #[]] w (WPost (cL cVote) w0 w b done ys) := by
  subst hl
  go_enter Tryz.func152, Tryz.ntmps152
  go_wp2_with fail
  refine (wnum_any w0 _ b _ 0 hW).mono ?_
  rintro e w1 ⟨hu1, hb1, ⟨ho1, rfl⟩ | ⟨ho1, rfl, hW1⟩⟩
  · exact absurd ho1 (by decide)
  go_wp2_with fail
  refine wp_loop_rounds 1 ?_; rw [rounds_succ]
  go_wp2_with fail
  go_end0
  have e : (cL cVote).wr [] = cN.wr 0 := by simp [cL, wrN, cN]
  rw [← e] at hW1
  exact WPost.yes hu1 rfl hW1
set_option maxHeartbeats 1000000 in
theorem wvotes_some (w0 w : World) (b : Nat) (done : List Int) (bb off cap : Nat) (ys : List PVote) (hW : WS w0 w b done) (hl : 0 < ys.length) (h64 : ys.length ≤ 64) (hc : ys.length ≤ cap) (hbb : bb < w0.heap.size)
    (hx : ∀ (i : Nat) (a : PVote), ys[i]? = some a → ∃ r, r.length = 2 ∧ w0.rangeAt bb (off + i * 2) r ∧ RVote Any w0 r a) :
    Calls Tryz.prog 152 #[.pointer (some ⟨b, 0, none⟩), .slice (some ⟨bb, off, none⟩) ys.length cap, .func (.func 153) #[.pointer (some ⟨b, 0, none⟩)] #[]] w (WPost (cL cVote) w0 w b done ys) := by
  go_enter Tryz.func152, Tryz.ntmps152
  go_wp2_with fail
  refine (wnum_any w0 _ b _ (ys.length : Int) hW).mono ?_
  rintro e w1 ⟨hu1, hb1, ⟨ho1, rfl⟩ | ⟨ho1, rfl, hW1⟩⟩
  · exact absurd ho1 (by show ¬ okI _ = false; rw [okI_yes (by omega) (by omega)]; decide)
  clear ho1
  have HX := (show Hid (∀ (i : Nat) (a : PVote), ys[i]? = some a → ∃ r, r.length = 2 ∧ w0.rangeAt bb (off + i * 2) r ∧ RVote Any w0 r a) from hx)
  clear hx
  go_wp2_with fail
  go_loopw [18] (fun i wr => ∃ q : Nat, q ≤ ys.length ∧ i = .int .i64 q ∧ Hid ((ys.take q).all cVote.ok = true) ∧ WS w0 wr b (done ++ cN.wr (ys.length : Int) ++ wrN cVote (ys.take q)) ∧ UFr b w wr) (fun i _ => ys.length - (intOf i).toNat)
  case atStart => exact ⟨0, by omega, rfl, rfl, by simpa [wrN] using hW1, hu1⟩
  case round =>
    obtain ⟨q, hq, rfl, hall, hWr, hur⟩ := hrel
    by_cases hql : q < ys.length
    · obtain ⟨a, ha⟩ : ∃ a, ys[q]? = some a := ⟨_, List.getElem?_eq_getElem hql⟩
      obtain ⟨r, hrl, hrng, hRa⟩ := HX.out q a ha
      have hrng := World.rangeAt.blk hrng (hWr.bel.block bb hbb)
      have HA := (show Hid (ys[q]? = some a) from ha)
      clear ha
      have hb0 := below_alloc wr (.cells ([.int .i64 0, .slice none 0 0] : List Value).toArray 42)
      have hrow0 := Row.new wr 42 [.int .i64 0, .slice none 0 0]
      have hrl' : ([.int .i64 0, .slice none 0 0] : List Value).length = r.length := hrl.symm
      have hr1 : ∀ v ∈ r, v.oneCell' = true := one_RVote hRa
      have hi : (Tryz.prog.info? 42).map (·.size) = some r.length := by rw [hrl]; kernel_rfl
      go_wp2_with (first
        | (refine wpList_load_mid rfl _ _ rfl bb (off + q * 2) rfl r _ hrng Tryz.underlying42 rfl hi ?_)
        | (refine wl_store rfl _ _ _ rfl wr.heap.size r rfl rfl _ _ hrow0 hrl' hi hr1 ?_; intro w2 hrw hg2)
        | (refine wl_load rfl _ _ rfl wr.heap.size rfl _ _ hrw.out _ Tryz.underlying42 rfl hi ?_))
      have hb2 : Below wr.heap.size wr w2 := hb0.trans (grown_below hg2 (by simp) (fun k hk => by cases hk; exact Nat.le_refl _))
      refine (wvote_any w0 _ b _ r a (hWr.below hb2) hRa).mono ?_
      rintro e w3 ⟨hu3, hb3, ⟨ho3, rfl⟩ | ⟨ho3, rfl, hW3⟩⟩
      · go_wp2_with fail
        exact ⟨rfl, WPost.no ((hur.trans (UFr.below hb2)).trans hu3) hb3 (no_list HA.out ho3)⟩
      have HO := (show Hid (cVote.ok a = true) from ho3)
      clear ho3
      go_wp2_with fail
      go_roundw
      case rel => exact ⟨q + 1, by omega, by go_num, yes_all HA.out hall.out HO.out, by rw [wrN_take HA.out, ← List.append_assoc]; exact hW3, (hur.trans (UFr.below hb2)).trans hu3⟩
      case measure => simp [intOf]; omega
    · obtain rfl : q = ys.length := by omega
      have hall := hall.out
      rw [List.take_length] at hall hWr
      have HO := (show Hid ((cL cVote).ok ys = true) from list_ok h64 hall)
      clear hall
      go_wp2_with fail
      go_end0
      exact WPost.yes hur HO.out (by rw [list_wr, ← List.append_assoc]; exact hWr)
/-- putList of PVote. -/
theorem wvotes_any (w0 w : World) (b : Nat) (done : List Int) (v : Value) (ys : List PVote) (hW : WS w0 w b done) (hR : RL RVote 2 Any w0 v ys) :
    Calls Tryz.prog 152 #[.pointer (some ⟨b, 0, none⟩), v, .func (.func 153) #[.pointer (some ⟨b, 0, none⟩)] #[]] w (WPost (cL cVote) w0 w b done ys) := by
  by_cases h64 : (64 : Int) < (ys.length : Int)
  · obtain ⟨ao, cap, rfl, hc⟩ := hR.form
    have HO : Hid ((cL cVote).ok ys = false) := list_no (by omega)
    go_enter Tryz.func152, Tryz.ntmps152
    go_wp2_with fail
    exact ⟨rfl, WPost.no (UFr.refl _ _) hW.bel HO.out⟩
  · by_cases hl : 0 < ys.length
    · obtain ⟨bb, off, cap, rfl, h1, h2, _, h4, h5⟩ := hR.at hl
      exact wvotes_some w0 w b done bb off cap ys hW hl (by omega) h1 h4 h5
    · obtain rfl : ys = [] := List.eq_nil_of_length_eq_zero (by omega)
      obtain ⟨ao, cap, rfl, hc⟩ := hR.form
      exact wvotes_none w0 w b done ao cap [] hW rfl
end Go.Proofs.YtgbfmccecnfooaaGreatDoor
