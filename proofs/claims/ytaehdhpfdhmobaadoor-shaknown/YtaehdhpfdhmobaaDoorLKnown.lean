/- catenarylaw02.ShaKnown: its walk. -/
import Derived.Test.YtaehdhpfdhmobaaDoorSAlive
namespace Go.Proofs.YtaehdhpfdhmobaaDoor
open Go.RowKit Oct Sha

def nilL : List Int := [0xe3, 0xb0, 0xc4, 0x42, 0x98, 0xfc, 0x1c, 0x14, 0x9a, 0xfb, 0xf4, 0xc8, 0x99, 0x6f, 0xb9, 0x24, 0x27, 0xae, 0x41, 0xe4, 0x64, 0x9b, 0x93, 0x4c, 0xa4, 0x95, 0x99, 0x1b, 0x78, 0x52, 0xb8, 0x55]
def abcL : List Int := [0xba, 0x78, 0x16, 0xbf, 0x8f, 0x01, 0xcf, 0xea, 0x41, 0x41, 0x40, 0xde, 0x5d, 0xae, 0x22, 0x23, 0xb0, 0x03, 0x61, 0xa3, 0x96, 0x17, 0x7a, 0x9c, 0xb4, 0x10, 0xff, 0x61, 0xf2, 0x00, 0x15, 0xad]
def longL : List Int := [0x24, 0x8d, 0x6a, 0x61, 0xd2, 0x06, 0x38, 0xb8, 0xe5, 0xc0, 0x26, 0x93, 0x0c, 0x3e, 0x60, 0x39, 0xa3, 0x3c, 0xe4, 0x59, 0x64, 0xff, 0x21, 0x67, 0xf6, 0xec, 0xed, 0xd4, 0x19, 0xdb, 0x06, 0xc1]
theorem rd_nil (w : World) : Rd w (.slice none 0 0) [] := ⟨byt_of rfl, (Own.nil w 0).rdv⟩

/-- Same, of like texts. -/
theorem same_yes (w : World) (u v : Value) (l : List Int) (ha : Rd w u l) (hb : Rd w v l) : Calls Tryd.prog 8 #[u, v] w fun e w' => e = .returned (.bool true) ∧ w' = w := by
  have := same_any w u v l l ha hb
  rwa [decide_eq_true rfl] at this

set_option maxHeartbeats 1000000 in
theorem known_any (w : World) (ht : Tab w) : Calls Tryd.prog 3 #[] w fun e w' => e = .returned (.bool true) ∧ Below w.heap.size w w' := by
  have le := Nat.le_refl w.heap.size
  have hcv := run_cvt
  go_enter Tryd.func3, Tryd.ntmps3
  go_wp2_with fail
  refine (alive_any w ht).mono ?_
  rintro e w1 ⟨rfl, hb1⟩
  have r1 := rd_lit w1 nilL 5 (0, 0) (byt_of (by decide)) (by decide) (by decide)
  have b1 := below_alloc w1 (.cells (bc nilL).toArray 5 (0, 0))
  have r2 := rd_lit (w1.alloc (.cells (bc nilL).toArray 5 (0, 0))) abcL 5 (0, 0) (byt_of (by decide)) (by decide) (by decide)
  have b2 := below_alloc (w1.alloc (.cells (bc nilL).toArray 5 (0, 0))) (.cells (bc abcL).toArray 5 (0, 0))
  have r3 := rd_lit ((w1.alloc (.cells (bc nilL).toArray 5 (0, 0))).alloc (.cells (bc abcL).toArray 5 (0, 0))) longL 5 (0, 0) (byt_of (by decide)) (by decide) (by decide)
  have b3 := below_alloc ((w1.alloc (.cells (bc nilL).toArray 5 (0, 0))).alloc (.cells (bc abcL).toArray 5 (0, 0))) (.cells (bc longL).toArray 5 (0, 0))
  have r1' := (r1.below b2).below b3
  have r2' := r2.below b3
  have hB := below_and (below_and (below_and hb1 le b1) le b2) le b3
  have htB := ht.below hB
  simp only [World.size_alloc] at r2' r3
  go_wp2_with fail
  refine (sum_any (((w1.alloc (.cells (bc nilL).toArray 5 (0, 0))).alloc (.cells (bc abcL).toArray 5 (0, 0))).alloc (.cells (bc longL).toArray 5 (0, 0))) (.slice none 0 0) [] (rd_nil _) htB (by decide)).mono ?_
  rintro e w2 ⟨s1, rfl, hown1, hfr1, hb2⟩
  have q1 := r1'.below hb2
  have q2 := r2'.below hb2
  have q3 := r3.below hb2
  have hB2 := below_and hB le hb2
  have hs1 : Rd w2 s1 nilL := (show shaL [] = nilL from hash_nil) ▸ hown1.rd (shaL_byt _)
  clear r1 r2 r3 r1' r2' b1 b2 b3 hb2 hB htB hown1 hfr1 hb1
  go_wp2_with fail
  refine (same_yes w2 _ _ nilL hs1 q1).mono ?_
  rintro e w2' ⟨rfl, rfl⟩
  have htB2 := ht.below hB2
  have rA := rd_lit w2' [97, 98, 99] 5 (3, 4) (byt_of (by decide)) (by decide) (by decide)
  have bA := below_alloc w2' (.cells (bc [97, 98, 99]).toArray 5 (3, 4))
  have hS := sum_any (w2'.alloc (.cells (bc [97, 98, 99]).toArray 5 (3, 4))) (.slice (some ⟨w2'.heap.size, 0, none⟩) 3 3) [97, 98, 99] rA (htB2.below bA) (by decide)
  have HS := (show Hid (∀ _ : Unit, _) from fun _ => hS)
  clear hS htB2 rA
  go_wp2_with fail
  refine (HS.out ()).mono ?_
  rintro e w3 ⟨s2, rfl, hown2, hfr2, hb3⟩
  have t2 := (q2.below bA).below hb3
  have t3 := (q3.below bA).below hb3
  have hB3 := below_and (below_and hB2 le bA) le hb3
  have hs2 : Rd w3 s2 abcL := (show shaL [97, 98, 99] = abcL from hash_abc) ▸ hown2.rd (shaL_byt _)
  clear q1 q2 q3 hs1 hown2 hfr2 hb3 bA hB2 HS
  go_wp2_with fail
  refine (same_yes w3 _ _ abcL hs2 t2).mono ?_
  rintro e w3' ⟨rfl, rfl⟩
  have htB3 := ht.below hB3
  have rA := rd_lit w3' long56 5 (56, 57) (byt_of (by decide)) (by decide) (by decide)
  have bA := below_alloc w3' (.cells (bc long56).toArray 5 (56, 57))
  have hS := sum_any (w3'.alloc (.cells (bc long56).toArray 5 (56, 57))) (.slice (some ⟨w3'.heap.size, 0, none⟩) 56 56) long56 rA (htB3.below bA) (by decide)
  have HS := (show Hid (∀ _ : Unit, _) from fun _ => hS)
  clear hS htB3 rA
  go_wp2_with fail
  refine (HS.out ()).mono ?_
  rintro e w4 ⟨s3, rfl, hown3, hfr3, hb4⟩
  have t3' := (t3.below bA).below hb4
  have hB4 := below_and (below_and hB3 le bA) le hb4
  have hs3 : Rd w4 s3 longL := (show shaL long56 = longL from hash_long) ▸ hown3.rd (shaL_byt _)
  clear t2 t3 hs2 hown3 hfr3 hb4 bA hB3 HS
  go_wp2_with fail
  refine (same_yes w4 _ _ longL hs3 t3').mono ?_
  rintro e w4' ⟨rfl, rfl⟩
  go_wp2_with fail
  go_ret
  exact ⟨rfl, hB4⟩
end Go.Proofs.YtaehdhpfdhmobaaDoor
