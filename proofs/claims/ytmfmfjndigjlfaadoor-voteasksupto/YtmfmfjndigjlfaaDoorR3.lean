/- catenaryref02.Pad. -/
import Derived.Test.YtmfmfjndigjlfaaDoorR2
import Derived.Test.YtmfmfjndigjlfaaDoorV8
namespace Go.Proofs.YtmfmfjndigjlfaaDoor
open Go.RowKit Oct Sha

theorem zs_end (n z : Nat) (hz : z ≤ zs n) : ((n + 1 + z) % 64 = 56) ↔ z = zs n := by unfold zs at *; omega
theorem Own.slen {w : World} {e : TypeId} {v : Value} {xs : List Value} (h : Own w e v xs) : slen v = xs.length := by
  obtain ⟨ao, cap, rfl, _⟩ := h.form
  rfl
theorem rep_snoc (z : Nat) (l : List Int) : (l ++ 128 :: List.replicate z 0) ++ [0] = l ++ 128 :: List.replicate (z + 1) 0 := by
  rw [List.replicate_succ']
  simp
theorem zs_lt (n : Nat) : zs n < 64 := by unfold zs; omega

set_option maxHeartbeats 1000000 in
theorem pad_any (w : World) (v : Value) (l : List Int) (hrd : Rd w v l) (hlen : l.length ≤ 140737488351232) :
    Calls Tryd.prog 70 #[v] w fun e w' => ∃ r, e = .returned r ∧ Own w' 5 r (bc (pad l)) ∧ Fr w.heap.size r ∧ Below w.heap.size w w' := by
  have le := Nat.le_refl w.heap.size
  obtain ⟨av, vcap, rfl, hvcap⟩ := hrd.form
  go_enter Tryd.func70, Tryd.ntmps70
  go_wp2_with (first
    | (at_builtin; refine app_bytes rfl _ _ rfl o1 l rfl (World.ownsRow.alloc hown1 _) _ [128] rfl (rdv_one w1 _ _) (by simp only [List.length_cons, List.length_nil]; omega) ?_; intro o2 w2 happ2)
    | (at_builtin; refine app_copy rfl _ _ rfl rfl _ l rfl hrd (by omega) ?_; intro o1 w1 hown1 hfr1 hb1))
  have hp2 := happ2.pre (below_alloc w1 _)
  have hown2 : Own w2 5 o2 (bc (l ++ 128 :: List.replicate 0 0)) := hp2.own
  have hfr2 := hp2.fr hfr1 hb1.size
  have hB2 : Below w.heap.size w w2 := hb1.trans (hp2.below hfr1 hb1.size)
  clear hp2 happ2 hown1 hfr1 hb1 hrd
  go_loopw [3] (fun o wr => ∃ z : Nat, z ≤ zs l.length ∧ Own wr 5 o (bc (l ++ 128 :: List.replicate z 0)) ∧ Fr w.heap.size o ∧ Below w.heap.size w wr) (fun o _ => l.length + 100 - slen o)
  case atStart => exact ⟨0, Nat.zero_le _, hown2, hfr2, hB2⟩
  case round =>
    clear hown2 hfr2 hB2
    obtain ⟨z, hz, hok, hfk, hbk⟩ := hrel
    have hzl := zs_lt l.length
    obtain ⟨q, hq⟩ : ∃ q : Nat, q = l.length + 1 + z := ⟨_, rfl⟩
    have hlz : (bc (l ++ 128 :: List.replicate z 0)).length = q := by rw [hq]; simp [bc_len]; omega
    have hq1 : q ≤ l.length + 1 + z := by omega
    have hq2 : l.length + 1 + z ≤ q := by omega
    clear hq
    obtain ⟨ao, cap, rfl, hcap⟩ := hok.form
    rw [hlz] at hok hfk ⊢
    by_cases hend : z < zs l.length
    · have hne : ¬ (q : Int) % 64 = 56 := by
        have := zs_end l.length z hz
        omega
      have hll : (l ++ 128 :: List.replicate z (0 : Int)).length = q := by simpa [bc_len] using hlz
      have HLL := (show Hid ((l ++ 128 :: List.replicate z (0 : Int)).length = q) from hll)
      clear hlz hll
      go_wp2_with (at_builtin; refine app_bytes rfl _ _ rfl _ (l ++ 128 :: List.replicate z 0) rfl (World.ownsRow.alloc hok _) _ [0] rfl (rdv_one wr _ _) (by rw [HLL.out]; simp only [List.length_cons, List.length_nil]; omega) ?_; intro o3 w3 happ3)
      have hp3 := happ3.pre (below_alloc wr _)
      have HO := (show Hid (Own w3 5 o3 (bc (l ++ 128 :: List.replicate (z + 1) 0))) by rw [← rep_snoc]; exact hp3.own)
      have hf3 := hp3.fr hfk hbk.size
      have hb3 := hbk.trans (hp3.below hfk hbk.size)
      have hsl : slen o3 = q + 1 := by rw [hp3.own.slen, bc_len, List.length_append, HLL.out]; rfl
      have HSL := (show Hid (slen o3 = q + 1) from hsl)
      clear hp3 happ3 hok hfk hbk hsl
      go_roundw
      case rel => exact ⟨z + 1, by omega, HO, hf3, hb3⟩
      case measure =>
        show l.length + 100 - slen o3 < l.length + 100 - q
        rw [HSL.out]
        omega
    · have hzz : z = zs l.length := by omega
      have heq : (q : Int) % 64 = 56 := by
        have := zs_end l.length z hz
        omega
      obtain ⟨N, hN⟩ : ∃ N : Int, N = 8 * (l.length : Int) := ⟨_, rfl⟩
      have hN' : (l.length : Int) * 8 = N := by omega
      have hN0 : 0 ≤ N := by omega
      have hN1 : N < 18446744073709551616 := by omega
      have HP := (show Hid (pad l = (l ++ 128 :: List.replicate z 0) ++ be8 N) by show pad l = _; rw [pad, hN, hzz, List.append_assoc, List.cons_append])
      obtain ⟨L, hL⟩ : ∃ L, L = l ++ 128 :: List.replicate z (0 : Int) := ⟨_, rfl⟩
      have hLl : L.length ≤ 140737488351400 := by rw [hL]; simp only [List.length_append, List.length_cons, List.length_replicate]; omega
      rw [← hL] at hok HP
      have HLL := (show Hid (L.length ≤ 140737488351400) from hLl)
      have HN := (show Hid (0 ≤ N ∧ N < 18446744073709551616) from ⟨hN0, hN1⟩)
      clear hlz hL hN hzz hLl hzl hend hz
      go_wp2_with fail
      clear hN' hN0 hN1 heq
      go_loopw [3, 5] (fun o i wr => ∃ k : Nat, k ≤ 8 ∧ i = .int .i64 (7 - (k : Int)) ∧ Own wr 5 o (bc (L ++ (be8 N).take k)) ∧ Fr w.heap.size o ∧ Below w.heap.size w wr) (fun _ i _ => (intOf i + 1).toNat)
      case atStart => exact ⟨0, by omega, rfl, by rw [List.take_zero, List.append_nil]; exact hok, hfk, hbk⟩
      case round =>
        clear hok hfk hbk
        obtain ⟨k, hk, rfl, hok, hfk, hbk⟩ := hrel
        by_cases hk8 : k < 8
        · obtain ⟨m, hm⟩ : ∃ m : Nat, (8 : Int) * (7 - (k : Int)) = m := ⟨56 - 8 * k, by omega⟩
          have HM := (show Hid (N / 2 ^ m % 256 = (be8 N).getD k 0) from byte_at N k hk8 m (by omega))
          have hge : (0 : Int) ≤ 7 - (k : Int) := by omega
          have HX := (show Hid (L ++ (be8 N).take (k + 1) = (L ++ (be8 N).take k) ++ [(be8 N).getD k 0]) by
            show L ++ (be8 N).take (k + 1) = _
            have hb : k < (be8 N).length := by rw [be8_len]; exact hk8
            rw [List.append_assoc, List.take_add_one, List.getElem?_eq_getElem hb]
            simp [List.getD, List.getElem?_eq_getElem hb])
          have HT := (show Hid ((L ++ (be8 N).take k).length ≤ 140737488351408) by
            show (L ++ (be8 N).take k).length ≤ _
            rw [List.length_append, List.length_take, be8_len]
            have := HLL.out
            omega)
          have hm0 : (0 : Int) ≤ (m : Int) := by omega
          go_wp2_with (at_builtin; refine app_bytes rfl _ _ rfl _ (L ++ (be8 N).take k) rfl (World.ownsRow.alloc hok _) _ [N / 2 ^ m % 256] rfl (rdv_one wr _ _) (by have := HT.out; simp only [List.length_cons, List.length_nil]; omega) ?_; intro o4 w4 happ4)
          have hp4 := happ4.pre (below_alloc wr _)
          have HO := (show Hid (Own w4 5 o4 (bc (L ++ (be8 N).take (k + 1)))) by
            show Own _ _ _ _
            rw [HX.out, ← HM.out]
            exact hp4.own)
          have hf4 := hp4.fr hfk hbk.size
          have hb4 := hbk.trans (hp4.below hfk hbk.size)
          clear hp4 happ4 hok hfk hbk
          go_roundw
          case rel => exact ⟨k + 1, by omega, by go_num, HO, hf4, hb4⟩
          case measure => simp [intOf]; omega
        · have hlt0 : ¬ (0 : Int) ≤ 7 - (k : Int) := by omega
          have hok' : Own wr 5 u3 (bc (pad l)) := by
            rw [HP.out]
            rwa [List.take_of_length_le (by rw [be8_len]; omega)] at hok
          go_wp2_with fail
          go_ret
          exact ⟨_, rfl, hok', hfk, hbk⟩
end Go.Proofs.YtmfmfjndigjlfaaDoor
