/- The document's own Right, Faults, Quorum (as B2 says them), beside texts that B1 can't stand beside. -/
import Derived.Test.YtgjepofinpmcpaaGreatDoorMBF
import Derived.Test.YtgjepofinpmcpaaGreatDoorMAC
import Derived.Test.YtgjepofinpmcpaaGreatDoorMBD
import Derived.Test.YtgjepofinpmcpaaGreatDoorMAZ
set_option linter.unusedSimpArgs false
set_option linter.unusedVariables false
namespace Go.Proofs.YtgjepofinpmcpaaGreatDoor
section
open Go.RowKit Oct Kvl
def vtd (m : PMsg) (r : zB3) (g : List Int) : Bool := zMn m.idx m.bal.1 m.bal.2 m.slot r (m.frm, g)
def shw (m : PMsg) : Bool := decide (zD8 (zB6 m.req) (zB6 m.oth) < 0) && vtd m m.req m.sig && vtd m m.oth m.data
def may (m : PMsg) (n : Int) : Bool := decide (m.kind = 13) && Bal.rgt n && decide (0 ≤ m.frm) && decide (m.frm < n) && (decide (m.idx = 2) || decide (m.idx = 3))
def zF5 (l : List Int) (n : Int) : Bool := decide (zE5 l = 0) && may (zC6 l) n && shw (zC6 l)
def zQi (l : List Int) (n : Int) : Int := if zF5 l n = true then (zC6 l).frm else 0
def zRp (l : List Int) (n : Int) : Int := if zF5 l n = true then 0 else 161
theorem zFa {l : List Int} {n : Int} (h : zF5 l n = false) : zQi l n = 0 ∧ zRp l n = 161 := by unfold zQi zRp; rw [h]; exact ⟨rfl, rfl⟩
theorem zGs {l : List Int} {n : Int} (h : zF5 l n = true) : zQi l n = (zC6 l).frm ∧ zRp l n = 0 := by unfold zQi zRp; rw [h]; exact ⟨rfl, rfl⟩
theorem dec_two (l : List Int) (hb : Byt l) : (zE5 l ≠ 0 ∧ zC6 l = zAc) ∨ (zE5 l = 0 ∧ zFi (zC6 l) = false ∧ byM (zC6 l) = l ∧ l.length ≤ 1048576) := by
  unfold zC6 zE5
  by_cases hl : 1048576 < l.length
  · simp [hl]
  · simp only [if_neg hl]
    cases hr : rdM l with
    | none => left; simp
    | some m =>
      obtain ⟨h1, h2⟩ := zT9 hb hr
      exact .inr ⟨by simp, h1, h2, by omega⟩
theorem zSb {m : PMsg} (h : zFi m = false) : (m.req.2.2.1.length ≤ 65536 ∧ m.req.2.2.2.length ≤ 65536) ∧ (m.oth.2.2.1.length ≤ 65536 ∧ m.oth.2.2.2.length ≤ 65536) ∧ m.data.length ≤ 65536 ∧ m.sig.length ≤ 65536 := by
  obtain ⟨_, h1, h2⟩ := zKm h
  refine ⟨?_, ?_, ?_, ?_⟩
  · by_cases hi : 6 ∈ fl m.kind
    · have := h2 6 hi
      simp [okF, cF, Oct.get, tag, zLi, unR, zBc, cP, cT, cN] at this
      omega
    · have := h1 6 (by decide) hi
      simp [Oct.get, zLi, zAc] at this
      rw [this]
      simp
  · by_cases hi : 7 ∈ fl m.kind
    · have := h2 7 hi
      simp [okF, cF, Oct.get, tag, zLi, unR, zBc, cP, cT, cN] at this
      omega
    · have := h1 7 (by decide) hi
      simp [Oct.get, zLi, zAc] at this
      rw [this]
      simp
  · by_cases hi : 8 ∈ fl m.kind
    · have := h2 8 hi
      simp [okF, cF, Oct.get, tag, zOv, unT, cT] at this
      omega
    · have := h1 8 (by decide) hi
      simp [Oct.get, zOv, zAc] at this
      rw [this]
      simp
  · by_cases hi : 9 ∈ fl m.kind
    · have := h2 9 hi
      simp [okF, cF, Oct.get, tag, zOv, unT, cT] at this
      omega
    · have := h1 9 (by decide) hi
      simp [Oct.get, zOv, zAc] at this
      rw [this]
      simp
theorem zLl {l : List Int} (hb : Byt l) (h0 : zE5 l = 0) : tot [(zC6 l).req.2.2.1, (zC6 l).req.2.2.2] ≤ 2000000 ∧ tot [(zC6 l).oth.2.2.1, (zC6 l).oth.2.2.2] ≤ 2000000 := by
  rcases dec_two l hb with ⟨h, _⟩ | ⟨_, h, _, _⟩
  · exact absurd h0 h
  · obtain ⟨h1, h2, _, _⟩ := zSb h
    simp only [tot]
    omega
end
section
open Go.RowKit Oct Sha
theorem zs_end (n z : Nat) (hz : z ≤ zs n) : ((n + 1 + z) % 64 = 56) ↔ z = zs n := by unfold zs at *; omega
theorem Own.slen {w : World} {e : TypeId} {v : Value} {xs : List Value} (h : Own w e v xs) : slen v = xs.length := by
  obtain ⟨ao, cap, rfl, _⟩ := h.form
  rfl
theorem rep_snoc (z : Nat) (l : List Int) : (l ++ 128 :: List.replicate z 0) ++ [0] = l ++ 128 :: List.replicate (z + 1) 0 := by
  rw [List.replicate_succ']
  simp
theorem zs_lt (n : Nat) : zs n < 64 := by unfold zs; omega
set_option maxHeartbeats 1000000 in
theorem pad_any (w : World) (v : Value) (l : List Int) (hrd : Rd w v l) (hlen : l.length ≤ 140737488351232) :
    Calls Tryz.prog 137 #[v] w fun e w' => ∃ r, e = .returned r ∧ Own w' 5 r (bc (pad l)) ∧ Fr w.heap.size r ∧ Below w.heap.size w w' := by
  have le := Nat.le_refl w.heap.size
  obtain ⟨av, vcap, rfl, hvcap⟩ := hrd.form
  go_enter Tryz.func137, Tryz.ntmps137
  go_wp2_with (first
    | (at_builtin; refine zAx rfl _ _ rfl o1 l rfl (World.ownsRow.alloc hown1 _) _ [128] rfl (zCy w1 _ _) (by simp only [List.length_cons, List.length_nil]; omega) ?_; intro o2 w2 happ2)
    | (at_builtin; refine zCi rfl _ _ rfl rfl _ l rfl hrd (by omega) ?_; intro o1 w1 hown1 hfr1 hb1))
  have hp2 := happ2.pre (zA0 w1 _)
  have hown2 : Own w2 5 o2 (bc (l ++ 128 :: List.replicate 0 0)) := hp2.own
  have hfr2 := hp2.fr hfr1 hb1.size
  have hB2 : Below w.heap.size w w2 := hb1.trans (hp2.below hfr1 hb1.size)
  clear hp2 happ2 hown1 hfr1 hb1 hrd
  go_loopw [3] (fun o wr => ∃ z : Nat, z ≤ zs l.length ∧ Own wr 5 o (bc (l ++ 128 :: List.replicate z 0)) ∧ Fr w.heap.size o ∧ Below w.heap.size w wr) (fun o _ => l.length + 100 - slen o)
  case atStart => exact ⟨0, Nat.zero_le _, hown2, hfr2, hB2⟩
  case round =>
    clear hown2 hfr2 hB2
    obtain ⟨z, hz, hok, hfk, hbk⟩ := hrel
    have hzl := zs_lt l.length
    obtain ⟨q, hq⟩ : ∃ q : Nat, q = l.length + 1 + z := ⟨_, rfl⟩
    have hlz : (bc (l ++ 128 :: List.replicate z 0)).length = q := by rw [hq]; simp [zAn]; omega
    have hq1 : q ≤ l.length + 1 + z := by omega
    have hq2 : l.length + 1 + z ≤ q := by omega
    clear hq
    obtain ⟨ao, cap, rfl, hcap⟩ := hok.form
    rw [hlz] at hok hfk ⊢
    by_cases hend : z < zs l.length
    · have hne : ¬ (q : Int) % 64 = 56 := by
        have := zs_end l.length z hz
        omega
      have hll : (l ++ 128 :: List.replicate z (0 : Int)).length = q := by simpa [zAn] using hlz
      have HLL := (show Hid ((l ++ 128 :: List.replicate z (0 : Int)).length = q) from hll)
      clear hlz hll
      go_wp2_with (at_builtin; refine zAx rfl _ _ rfl _ (l ++ 128 :: List.replicate z 0) rfl (World.ownsRow.alloc hok _) _ [0] rfl (zCy wr _ _) (by rw [HLL.out]; simp only [List.length_cons, List.length_nil]; omega) ?_; intro o3 w3 happ3)
      have hp3 := happ3.pre (zA0 wr _)
      have HO := (show Hid (Own w3 5 o3 (bc (l ++ 128 :: List.replicate (z + 1) 0))) by rw [← rep_snoc]; exact hp3.own)
      have hf3 := hp3.fr hfk hbk.size
      have hb3 := hbk.trans (hp3.below hfk hbk.size)
      have hsl : slen o3 = q + 1 := by rw [hp3.own.slen, zAn, List.length_append, HLL.out]; rfl
      have HSL := (show Hid (slen o3 = q + 1) from hsl)
      clear hp3 happ3 hok hfk hbk hsl
      go_roundw
      case rel => exact ⟨z + 1, by omega, HO, hf3, hb3⟩
      case measure =>
        show l.length + 100 - slen o3 < l.length + 100 - q
        rw [HSL.out]
        omega
    · have hzz : z = zs l.length := by omega
      have heq : (q : Int) % 64 = 56 := by
        have := zs_end l.length z hz
        omega
      obtain ⟨N, hN⟩ : ∃ N : Int, N = 8 * (l.length : Int) := ⟨_, rfl⟩
      have hN' : (l.length : Int) * 8 = N := by omega
      have hN0 : 0 ≤ N := by omega
      have hN1 : N < 18446744073709551616 := by omega
      have HP := (show Hid (pad l = (l ++ 128 :: List.replicate z 0) ++ be8 N) by show pad l = _; rw [pad, hN, hzz, List.append_assoc, List.cons_append])
      obtain ⟨L, hL⟩ : ∃ L, L = l ++ 128 :: List.replicate z (0 : Int) := ⟨_, rfl⟩
      have hLl : L.length ≤ 140737488351400 := by rw [hL]; simp only [List.length_append, List.length_cons, List.length_replicate]; omega
      rw [← hL] at hok HP
      have HLL := (show Hid (L.length ≤ 140737488351400) from hLl)
      have HN := (show Hid (0 ≤ N ∧ N < 18446744073709551616) from ⟨hN0, hN1⟩)
      clear hlz hL hN hzz hLl hzl hend hz
      go_wp2_with fail
      clear hN' hN0 hN1 heq
      go_loopw [3, 5] (fun o i wr => ∃ k : Nat, k ≤ 8 ∧ i = .int .i64 (7 - (k : Int)) ∧ Own wr 5 o (bc (L ++ (be8 N).take k)) ∧ Fr w.heap.size o ∧ Below w.heap.size w wr) (fun _ i _ => (intOf i + 1).toNat)
      case atStart => exact ⟨0, by omega, rfl, by rw [List.take_zero, List.append_nil]; exact hok, hfk, hbk⟩
      case round =>
        clear hok hfk hbk
        obtain ⟨k, hk, rfl, hok, hfk, hbk⟩ := hrel
        by_cases hk8 : k < 8
        · obtain ⟨m, hm⟩ : ∃ m : Nat, (8 : Int) * (7 - (k : Int)) = m := ⟨56 - 8 * k, by omega⟩
          have HM := (show Hid (N / 2 ^ m % 256 = (be8 N).getD k 0) from zMu N k hk8 m (by omega))
          have hge : (0 : Int) ≤ 7 - (k : Int) := by omega
          have HX := (show Hid (L ++ (be8 N).take (k + 1) = (L ++ (be8 N).take k) ++ [(be8 N).getD k 0]) by
            show L ++ (be8 N).take (k + 1) = _
            have hb : k < (be8 N).length := by rw [zEe]; exact hk8
            rw [List.append_assoc, List.take_add_one, List.getElem?_eq_getElem hb]
            simp [List.getD, List.getElem?_eq_getElem hb])
          have HT := (show Hid ((L ++ (be8 N).take k).length ≤ 140737488351408) by
            show (L ++ (be8 N).take k).length ≤ _
            rw [List.length_append, List.length_take, zEe]
            have := HLL.out
            omega)
          have hm0 : (0 : Int) ≤ (m : Int) := by omega
          go_wp2_with (at_builtin; refine zAx rfl _ _ rfl _ (L ++ (be8 N).take k) rfl (World.ownsRow.alloc hok _) _ [N / 2 ^ m % 256] rfl (zCy wr _ _) (by have := HT.out; simp only [List.length_cons, List.length_nil]; omega) ?_; intro o4 w4 happ4)
          have hp4 := happ4.pre (zA0 wr _)
          have HO := (show Hid (Own w4 5 o4 (bc (L ++ (be8 N).take (k + 1)))) by
            show Own _ _ _ _
            rw [HX.out, ← HM.out]
            exact hp4.own)
          have hf4 := hp4.fr hfk hbk.size
          have hb4 := hbk.trans (hp4.below hfk hbk.size)
          clear hp4 happ4 hok hfk hbk
          go_roundw
          case rel => exact ⟨k + 1, by omega, by go_num, HO, hf4, hb4⟩
          case measure => simp [intOf]; omega
        · have hlt0 : ¬ (0 : Int) ≤ 7 - (k : Int) := by omega
          have hok' : Own wr 5 u3 (bc (pad l)) := by
            rw [HP.out]
            rwa [List.take_of_length_le (by rw [zEe]; omega)] at hok
          go_wp2_with fail
          go_ret
          exact ⟨_, rfl, hok', hfk, hbk⟩
end
section
open Go.RowKit Oct Bal
namespace Bb
theorem fau_at {n : Int} {j : Nat} (h : n = 3 * (j : Int) + 1) (h1 : 1 ≤ j) (h5 : j ≤ 5) : fau n = j := by
  have : j = 1 ∨ j = 2 ∨ j = 3 ∨ j = 4 ∨ j = 5 := by omega
  rcases this with rfl | rfl | rfl | rfl | rfl <;> subst h <;> rfl
theorem fau_none {n : Int} (h : ∀ j : Nat, 1 ≤ j → j < 6 → n ≠ 3 * (j : Int) + 1) : fau n = 0 := by
  have h1 := h 1 (by omega) (by omega)
  have h2 := h 2 (by omega) (by omega)
  have h3 := h 3 (by omega) (by omega)
  have h4 := h 4 (by omega) (by omega)
  have h5 := h 5 (by omega) (by omega)
  unfold fau
  rw [if_neg (by omega), if_neg (by omega), if_neg (by omega), if_neg (by omega), if_neg (by omega)]
theorem zL9 (w : World) (n : Int) : Calls Tryz.prog 50 #[.int .i64 n] w fun e w' => e = .returned (.int .i64 (fau n)) ∧ w' = w := by
  obtain ⟨r, hr⟩ : ∃ r, r = fau n := ⟨_, rfl⟩
  rw [← hr]
  have HR := (show Hid (r = fau n) from hr)
  clear hr
  go_enter Tryz.func50, Tryz.ntmps50
  go_wp2_with fail
  go_loop [3] (fun i => ∃ k : Nat, 1 ≤ k ∧ k ≤ 6 ∧ i = .int .i64 k ∧ Hid (∀ j : Nat, 1 ≤ j → j < k → n ≠ 3 * (j : Int) + 1)) (fun i => 6 - (intOf i).toNat)
  case atStart => exact ⟨1, by omega, by omega, rfl, fun j h1 h2 => by omega⟩
  case round =>
    obtain ⟨k, hk1, hk6, rfl, hno⟩ := hrel
    by_cases hk : k < 6
    · have hi : (k : Int) ≤ 5 := by omega
      by_cases hn : n = 3 * (k : Int) + 1
      · have hr' : r = k := by rw [HR.out, fau_at hn hk1 (by omega)]
        subst hr'
        clear HR
        go_wp2_with fail
        go_ret
        exact ⟨rfl, rfl⟩
      · have hnx : ¬ (n = 3 * (k : Int) + 1) := hn
        go_wp2_with fail
        go_round
        case rel => exact ⟨k + 1, by omega, by omega, by go_num, fun j h1 h2 => by
          rcases Nat.lt_or_ge j k with h | h
          · exact hno.out j h1 h
          · obtain rfl : j = k := by omega
            exact hn⟩
        case measure => simp [intOf]; omega
    · have hi : ¬ (k : Int) ≤ 5 := by omega
      obtain rfl : k = 6 := by omega
      have hr' : r = 0 := by rw [HR.out, fau_none hno.out]
      subst hr'
      clear HR
      go_wp2_with fail
      go_ret
      exact ⟨rfl, rfl⟩
theorem refRight_any (w : World) (n : Int) : Calls Tryz.prog 25 #[.int .i64 n] w fun e w' => e = .returned (.bool (rgt n)) ∧ w' = w := by
  have hF := zL9 w n
  by_cases h : rgt n = true
  · have h1 := fau_pos.2 h
    rw [h]
    clear h
    generalize fau n = f at *
    go_enter Tryz.func25, Tryz.ntmps25
    go_wp2_with fail
    refine hF.mono ?_
    rintro e w1 ⟨rfl, rfl⟩
    clear hF
    go_wp2_with fail
    go_ret
    exact ⟨rfl, rfl⟩
  · rw [fau_no h] at hF
    rw [zT7 h]
    go_enter Tryz.func25, Tryz.ntmps25
    go_wp2_with fail
    refine hF.mono ?_
    rintro e w1 ⟨rfl, rfl⟩
    clear hF
    go_wp2_with fail
    go_ret
    exact ⟨rfl, rfl⟩
end Bb
end
end Go.Proofs.YtgjepofinpmcpaaGreatDoor
