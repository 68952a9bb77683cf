/- catenarylaw04.BallotOrders: its walk. -/
import Derived.Test.YtcajelodbfpkfaaBAlive
namespace Go.Proofs.Ytcajelodbfpkfaa
open Go.RowKit Oct Bal

set_option maxHeartbeats 1000000 in
theorem orders_any (w : World) (view n : Int) (v : Value) (l : List Int) (hrd : Rdi w v l) (hl : l.length ≤ 17592186044416) : Calls Try.prog 5 #[.int .i64 view, .int .i64 n, v] w fun e w' => e = .returned (.bool true) ∧ Below w.heap.size w w' := by
  have le := Nat.le_refl w.heap.size
  go_enter Try.func5, Try.ntmps5
  go_wp2_with fail
  refine (alive_any _).mono ?_
  rintro e w1 ⟨rfl, B1⟩
  have r1 := hrd.below B1
  clear hrd
  go_wp2_with (at_builtin; refine app_icopy rfl _ _ rfl rfl v l rfl r1 hl ?_; intro own w2 ho2 hf2 hb2; have B2 := below_and B1 le hb2; have r2 := r1.below hb2; have o2 := ho2.rdi; clear ho2 hf2 hb2 r1 B1)
  refine (start_any w2 view n).mono ?_
  rintro e w3 ⟨s, rfl, hs3, hb3⟩
  have B3 := below_and B2 le hb3
  have r3 := r2.below hb3
  have o3 := o2.below hb3
  clear hb3 B2 r2 o2
  go_wp2_with fail
  refine (refStart_any w3 view n).mono ?_
  rintro e w4 ⟨t, rfl, ht4, hb4⟩
  have B4 := below_and B3 le hb4
  have r4 := r3.below hb4
  have o4 := o3.below hb4
  have s4 := hs3.below hb4
  clear hb4 B3 r3 o3 hs3
  have hE := same_any w4 s t _ _ s4 ht4
  rw [decide_eq_true rfl] at hE
  go_wp2_with fail
  refine hE.mono ?_
  rintro e w5 ⟨rfl, hb5⟩
  have B5 := below_and B4 le hb5
  have r5 := r4.below hb5
  have o5 := o4.below hb5
  have s5 := s4.below hb5
  clear hb5 B4 r4 o4 s4 hE ht4
  have hne1 : (isO l n != isO l n) = false := by simp
  have hne2 : (plc l view != plc l view) = false := by simp
  have HO := (show Hid (∀ _ : Unit, _) from fun _ => order_any w5 own l n o5)
  have HR := (show Hid (∀ _ : Unit, _) from fun _ => refOrder_any w5 v l n r5)
  have HP := (show Hid (∀ _ : Unit, _) from fun _ => place_any w5 own l view o5)
  have HQ := (show Hid (∀ _ : Unit, _) from fun _ => refPlace_any w5 v l view r5)
  have hE := same_any w5 own v _ _ o5 r5
  rw [decide_eq_true rfl] at hE
  have HE := (show Hid (∀ _ : Unit, _) from fun _ => hE)
  clear hE
  by_cases h : rgt n = true ∧ 0 ≤ view
  · have hn := rgt_le h.1
    have hlen : (ord0 view n).length = n.toNat := by rw [ord0_yes h.1 h.2, sta_len]
    have hO0 := ord0_isO h.1 h.2
    have hh0 := ord0_head h.1 h.2
    have HH := (show Hid (hed view n = view % n) from hed_yes h.1 h.2)
    obtain ⟨sb, off, cap, rfl, hc1, hc2, hsb, hcell⟩ := s5.at (by omega)
    have hc0 := hcell 0 (by omega)
    have hx0 : (ord0 view n).getD 0 0 = view % n := by simp [List.getD, hh0]
    rw [hx0, Nat.add_zero] at hc0
    rw [hlen] at s5 hc1 ⊢
    obtain ⟨N, hN⟩ : ∃ N : Nat, N = n.toNat := ⟨_, rfl⟩
    rw [← hN] at s5 hc1 ⊢
    have hlp2 : ((N : Int) == 0) = false := by rw [beq_eq_false_iff_ne]; omega
    have hlp3 : (0 : Int) < (N : Int) := by omega
    have hlp4 : 0 < N := by omega
    clear hN
    have HC0 := (show Hid (w5.cell? ⟨sb, off, none⟩ = some (.int .i64 (view % n))) from hc0)
    have HO0 := (show Hid (isO (ord0 view n) n = true) from hO0)
    have hvv : (view % n == view % n) = true := by simp
    clear h hn hlen hO0 hh0 hcell hc0 hx0
    generalize ord0 view n = L at *
    generalize view % n = x at *
    go_wp2_with (first
      | (go_at_call 25; refine (HO.out ()).mono ?_; rintro e w5 ⟨rfl, rfl⟩)
      | (go_at_call 26; refine (HR.out ()).mono ?_; rintro e w5 ⟨rfl, rfl⟩)
      | (go_at_call 27; refine (HP.out ()).mono ?_; rintro e w5 ⟨rfl, rfl⟩)
      | (go_at_call 28; refine (HQ.out ()).mono ?_; rintro e w5 ⟨rfl, rfl⟩)
      | (go_at_call 23; refine (HE.out ()).mono ?_; rintro e w6 ⟨rfl, hb6⟩; have B6 := below_and B5 le hb6; have s6 := s5.below hb6))
    have hc6 : w6.cell? ⟨sb, off, none⟩ = some (.int .i64 x) := (hb6.cell (p := ⟨sb, off, none⟩) hsb).trans HC0.out
    have SK := (show Hid (∀ u, Below w6.heap.size w6 u → u.cell? ⟨sb, off, none⟩ = some (.int .i64 x)) from fun u hu => (hu.cell (p := ⟨sb, off, none⟩) (by have := hb6.size; show sb < w6.heap.size; omega)).trans hc6)
    have hdr : Below w6.heap.size w6 w6.drew := ⟨rfl, rfl, rfl, Nat.le_refl _, fun _ _ => rfl⟩
    clear HO HR HP HQ HE
    go_region_held3 (fun u => u.cell? ⟨sb, off, none⟩ = some (.int .i64 x))
      (first | exact SK.out _ (by assumption) | go_keep)
      (first
        | (go_at_call 25; refine (order_any w6.drew _ L n s6).mono ?_; rintro e w7 ⟨rfl, hw7⟩; rw [HO0.out]; have hb7 : Below w6.heap.size w6 w7 := hw7 ▸ hdr)
        | (go_at_call 20; refine (head_at w6 _ (by assumption) _ _ _).mono ?_; rintro e w8 ⟨rfl, hb8⟩; rw [HH.out]))
    go_wp2_with fail
    go_ret
    exact ⟨rfl, below_and B6 le hb8⟩
  · have hE0 : ord0 view n = [] := ord0_no h
    rw [hE0] at s5
    obtain ⟨ao, cap, rfl, hcap⟩ := s5.form
    clear h hE0
    go_wp2_with (first
      | (go_at_call 25; refine (HO.out ()).mono ?_; rintro e w5 ⟨rfl, rfl⟩)
      | (go_at_call 26; refine (HR.out ()).mono ?_; rintro e w5 ⟨rfl, rfl⟩)
      | (go_at_call 27; refine (HP.out ()).mono ?_; rintro e w5 ⟨rfl, rfl⟩)
      | (go_at_call 28; refine (HQ.out ()).mono ?_; rintro e w5 ⟨rfl, rfl⟩)
      | (go_at_call 23; refine (HE.out ()).mono ?_; rintro e w6 ⟨rfl, hb6⟩; have B6 := below_and B5 le hb6; have s6 := s5.below hb6))
    clear HO HR HP HQ HE
    go_quiet (fail)
    go_wp2_with fail
    go_ret
    exact ⟨rfl, bel_drewN B6 _⟩
end Go.Proofs.Ytcajelodbfpkfaa
