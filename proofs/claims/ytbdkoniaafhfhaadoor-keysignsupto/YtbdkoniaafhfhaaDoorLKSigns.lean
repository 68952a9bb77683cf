/- catenarylaw03.KeySigns: its walk. -/
import Derived.Test.YtbdkoniaafhfhaaDoorKAlive
import Derived.Test.YtbdkoniaafhfhaaDoorK3
namespace Go.Proofs.YtbdkoniaafhfhaaDoor
open Go.RowKit Oct Sha

theorem same_yes (w : World) (u v : Value) (l : List Int) (ha : Rd w u l) (hb : Rd w v l) : Calls Tryd.prog 14 #[u, v] w fun e w' => e = .returned (.bool true) ∧ w' = w := by
  have := same_any w u v l l ha hb
  rwa [decide_eq_true rfl] at this
theorem sameList_yes (w : World) (u v : Value) (ll : List (List Int)) (hu : Rdl w u ll) (hv : Rdl w v ll) (ht : ll.length ≤ 1000000000) :
    Calls Tryd.prog 17 #[u, v] w fun e w' => e = .returned (.bool true) ∧ Below w.heap.size w w' := by
  have := sameList_any w u v ll ll hu hv ht
  rwa [decide_eq_true rfl] at this

set_option maxHeartbeats 1600000 in
theorem signs_any (w : World) (k : Int) (s : ByteArray) (pv : Value) (ll : List (List Int)) (hp : Rdl w pv ll) (hs : s.size ≤ 1048576) (ht : tot ll ≤ 1048576) (hT : Tab w) :
    Calls Tryd.prog 4 #[.int .i64 k, .string s, pv] w fun e w' => e = .returned (.bool true) ∧ Below w.heap.size w w' := by
  have le := Nat.le_refl w.heap.size
  have hby := hp.byts
  have hlt := len_tot ll
  have hsb := signL_byt k (sL s) ll
  have htb := textL_byt k s ll hby (by omega)
  go_enter Tryd.func4, Tryd.ntmps4
  go_wp2_with fail
  refine (alive_any w hT).mono ?_
  rintro e w1 ⟨rfl, hb1⟩
  have p1 := hp.below hb1
  have T1 := hT.below hb1
  clear hp
  go_wp2_with fail
  refine (copy_any w1 pv ll p1 (by omega)).mono ?_
  rintro e w2 ⟨oc, uc, rfl, hoc, hec, hfc, hb2⟩
  have p2 := p1.below hb2
  have T2 := T1.below hb2
  have B2 := below_and hb1 le hb2
  have o2 := hec.rdl hoc hby
  clear hoc hec hfc hb1 hb2 p1 T1
  go_wp2_with fail
  refine (sign_any w2 k s oc ll o2 (by omega) (by omega) T2).mono ?_
  rintro e w3 ⟨vs, rfl, hvs, hfs, hb3⟩
  have p3 := p2.below hb3
  have o3 := o2.below hb3
  have s3 := hvs.rd hsb
  have B3 := below_and B2 le hb3
  clear hvs hfs hb3 p2 o2 T2 B2
  go_wp2_with fail
  refine (text_any w3 k s oc ll o3 (by omega) (by omega)).mono ?_
  rintro e w4 ⟨vt, rfl, hvt, hft, hb4⟩
  have p4 := p3.below hb4
  have o4 := o3.below hb4
  have s4 := s3.below hb4
  have t4 := hvt.rd htb
  have B4 := below_and B3 le hb4
  clear hvt hft hb4 p3 o3 s3 B3
  go_wp2_with fail
  refine (refSign_any w4 k s pv ll p4 (by omega) (by omega)).mono ?_
  rintro e w5 ⟨vr, rfl, hvr, hfr, hb5⟩
  have p5 := p4.below hb5
  have o5 := o4.below hb5
  have s5 := s4.below hb5
  have t5 := t4.below hb5
  have r5 := hvr.rd hsb
  have B5 := below_and B4 le hb5
  clear hvr hfr hb5 p4 o4 s4 t4 B4
  go_wp2_with fail
  refine (same_yes w5 vs vr _ s5 r5).mono ?_
  rintro e w' ⟨rfl, rfl⟩
  clear s5 r5
  go_wp2_with fail
  refine (refText_any _ k s pv ll p5 (by omega) (by omega)).mono ?_
  rintro e w6 ⟨vq, rfl, hvq, hfq, hb6⟩
  have p6 := p5.below hb6
  have o6 := o5.below hb6
  have t6 := t5.below hb6
  have q6 := hvq.rd htb
  have B6 := below_and B5 le hb6
  clear hvq hfq hb6 p5 o5 t5 B5
  go_wp2_with fail
  refine (same_yes w6 vt vq _ t6 q6).mono ?_
  rintro e w' ⟨rfl, rfl⟩
  clear t6 q6
  go_wp2_with fail
  refine (sameList_yes _ oc pv ll o6 p6 (by omega)).mono ?_
  rintro e w7 ⟨rfl, hb7⟩
  go_wp2_with fail
  go_ret
  exact ⟨rfl, below_and B6 le hb7⟩

set_option maxHeartbeats 1600000 in
theorem digests_any (w : World) (s : ByteArray) (pv : Value) (ll : List (List Int)) (i : Int) (hp : Rdl w pv ll) (hs : s.size ≤ 1048576) (ht : tot ll ≤ 1048576) (hT : Tab w) :
    Calls Tryd.prog 5 #[.string s, pv, .int .i64 i] w fun e w' => e = .returned (.bool true) ∧ Below w.heap.size w w' := by
  have le := Nat.le_refl w.heap.size
  have hby := hp.byts
  have hdb : Byt (digL (sL s) ll) := shaL_byt _
  obtain ⟨R, hR⟩ : ∃ R, R = repL i := ⟨_, rfl⟩
  obtain ⟨C, hC⟩ : ∃ C, C = cliL i := ⟨_, rfl⟩
  have H1 := (show Hid (∀ u : World, Calls Tryd.prog 9 #[.int .i64 i] u fun e w' => e = .returned (.int .i64 R) ∧ w' = u) from fun u => hR ▸ replica_any u i)
  have H2 := (show Hid (∀ u : World, Calls Tryd.prog 20 #[.int .i64 i] u fun e w' => e = .returned (.int .i64 R) ∧ w' = u) from fun u => hR ▸ refReplica_any u i)
  have H3 := (show Hid (∀ u : World, Calls Tryd.prog 10 #[.int .i64 i] u fun e w' => e = .returned (.int .i64 C) ∧ w' = u) from fun u => hC ▸ client_any u i)
  have H4 := (show Hid (∀ u : World, Calls Tryd.prog 21 #[.int .i64 i] u fun e w' => e = .returned (.int .i64 C) ∧ w' = u) from fun u => hC ▸ refClient_any u i)
  have hRR : (R == R) = true := by simp
  have hCC : (C == C) = true := by simp
  clear hR hC
  go_enter Tryd.func5, Tryd.ntmps5
  go_wp2_with fail
  refine (alive_any w hT).mono ?_
  rintro e w1 ⟨rfl, hb1⟩
  have p1 := hp.below hb1
  have T1 := hT.below hb1
  clear hp
  go_wp2_with fail
  refine (copy_any w1 pv ll p1 (by omega)).mono ?_
  rintro e w2 ⟨oc, uc, rfl, hoc, hec, hfc, hb2⟩
  have p2 := p1.below hb2
  have T2 := T1.below hb2
  have B2 := below_and hb1 le hb2
  have o2 := hec.rdl hoc hby
  clear hoc hec hfc hb1 hb2 p1 T1
  go_wp2_with fail
  refine (digest_any w2 s oc ll o2 (by omega) (by omega) T2).mono ?_
  rintro e w3 ⟨vs, rfl, hvs, hfs, hb3⟩
  have p3 := p2.below hb3
  have s3 := hvs.rd hdb
  have B3 := below_and B2 le hb3
  clear hvs hfs hb3 p2 o2 T2 B2
  go_wp2_with fail
  refine (refDigest_any w3 s pv ll p3 (by omega) (by omega)).mono ?_
  rintro e w4 ⟨vr, rfl, hvr, hfr, hb4⟩
  have s4 := s3.below hb4
  have r4 := hvr.rd hdb
  have B4 := below_and B3 le hb4
  clear hvr hfr hb4 p3 s3 B3
  go_wp2_with fail
  refine (same_yes w4 vs vr _ s4 r4).mono ?_
  rintro e w' ⟨rfl, rfl⟩
  clear s4 r4
  go_wp2_with fail
  refine (H1.out _).mono ?_
  rintro e w' ⟨rfl, rfl⟩
  go_wp2_with fail
  refine (H2.out _).mono ?_
  rintro e w' ⟨rfl, rfl⟩
  go_wp2_with fail
  refine (H3.out _).mono ?_
  rintro e w' ⟨rfl, rfl⟩
  go_wp2_with fail
  refine (H4.out _).mono ?_
  rintro e w' ⟨rfl, rfl⟩
  go_wp2_with fail
  go_ret
  exact ⟨rfl, B4⟩

end Go.Proofs.YtbdkoniaafhfhaaDoor
