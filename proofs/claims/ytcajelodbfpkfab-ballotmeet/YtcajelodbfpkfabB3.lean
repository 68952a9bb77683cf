/- Slices of ints; the walks over places and orders. -/
import Derived.Test.YtcajelodbfpkfabB2
namespace Go.Proofs.Ytcajelodbfpkfab
open Go.RowKit Oct Bal

/-- Ints as cells. -/
def ic (l : List Int) : List Value := l.map (Value.int .i64)
theorem ic_len (l : List Int) : (ic l).length = l.length := by simp [ic]
theorem ic_app (a b : List Int) : ic (a ++ b) = ic a ++ ic b := by simp [ic]
theorem ic_one (l : List Int) : ∀ u ∈ ic l, u.oneCell' = true := ints_oneCell .i64 l
theorem ic_getD (l : List Int) (j : Nat) (h : j < l.length) : (ic l)[j]? = some (.int .i64 (l.getD j 0)) := by
  simp [ic, List.getD, List.getElem?_eq_getElem h]
theorem ic_take (l : List Int) (k : Nat) : ic (l.take k) = (ic l).take k := by simp [ic]
theorem ic_drop (l : List Int) (k : Nat) : ic (l.drop k) = (ic l).drop k := by simp [ic]

/-- A slice of ints that reads l. -/
def Rdi (w : World) (v : Value) (l : List Int) : Prop := Rdv w v (ic l)
theorem Rdi.below {w w' : World} {v : Value} {l : List Int} (h : Rdi w v l) (hb : Below w.heap.size w w') : Rdi w' v l := Rdv.below h hb
theorem Rdi.form {w : World} {v : Value} {l : List Int} (h : Rdi w v l) : ∃ ao cap, v = .slice ao l.length cap ∧ cap ≤ maxLen := by
  obtain ⟨ao, cap, h1, h2⟩ := Rdv.form h
  exact ⟨ao, cap, by rw [h1, ic_len], h2⟩
theorem Rdi.at {w : World} {v : Value} {l : List Int} (h : Rdi w v l) (hl : 0 < l.length) : ∃ b off cap, v = .slice (some ⟨b, off, none⟩) l.length cap ∧ l.length ≤ cap ∧ cap ≤ maxLen ∧ b < w.heap.size ∧
    ∀ j, j < l.length → w.cell? ⟨b, off + j, none⟩ = some (.int .i64 (l.getD j 0)) := by
  obtain ⟨b, off, cap, h1, h2, h3, h4, h5⟩ := Rdv.at h (by rw [ic_len]; exact hl)
  rw [ic_len] at h1 h2
  exact ⟨b, off, cap, h1, h2, h3, h4, fun j hj => h5 j _ (ic_getD l j hj)⟩
theorem Rdi.len {w : World} {v : Value} {l : List Int} (h : Rdi w v l) : (l.length : Int) ≤ 9223372036854775807 := by
  obtain ⟨ao, cap, _, h1, h2, _⟩ := h
  rw [ic_len] at h1
  unfold maxLen at h2
  omega
theorem Own.rdi {w : World} {e : TypeId} {v : Value} {l : List Int} (h : Own w e v (ic l)) : Rdi w v l := h.rdv
theorem Rdi.drewN {w : World} {v : Value} {l : List Int} (h : Rdi w v l) (n : Nat) : Rdi (w.drewN n) v l := h

theorem getD_some {l : List Int} {k : Nat} {x : Int} (h : k < l.length) (hx : x = l.getD k 0) : l[k]? = some x := by
  rw [hx]; simp [List.getD, List.getElem?_eq_getElem h]
theorem no_snoc {l : List Int} {k : Nat} {x r : Int} (h : l[k]? = some x) (hn : r ∉ l.take k) (hx : ¬ x = r) : r ∉ l.take (k + 1) := by
  rw [List.take_add_one, h]
  simp only [List.mem_append, Option.toList_some, List.mem_singleton, not_or]
  exact ⟨hn, fun e => hx e.symm⟩

/-- ballot.Place. -/
theorem place_any (w : World) (v : Value) (l : List Int) (r : Int) (hrd : Rdi w v l) : Calls Try.prog 15 #[v, .int .i64 r] w fun e w' => e = .returned (.int .i64 (plc l r)) ∧ w' = w := by
  have hll := hrd.len
  by_cases hl : 0 < l.length
  · obtain ⟨b, off, cap, rfl, hc1, hc2, hb, hcell⟩ := hrd.at hl
    have HC := (show Hid (∀ j, j < l.length → w.cell? ⟨b, off + j, none⟩ = some (.int .i64 (l.getD j 0))) from hcell)
    obtain ⟨d, hd⟩ : ∃ d, d = plc l r := ⟨_, rfl⟩
    rw [← hd]
    have HD := (show Hid (d = plc l r) from hd)
    clear hcell hrd hd
    go_enter Try.func15, Try.ntmps15
    go_wp2_with fail
    go_loop [9] (fun i => ∃ k : Nat, k ≤ l.length ∧ i = .int .i64 k ∧ Hid (r ∉ l.take k)) (fun i => l.length - (intOf i).toNat)
    case atStart => exact ⟨0, Nat.zero_le _, rfl, (by simp : r ∉ l.take 0)⟩
    case round =>
      obtain ⟨k, hk, rfl, hno⟩ := hrel
      by_cases hkl : k < l.length
      · obtain ⟨x, hx⟩ : ∃ x, x = l.getD k 0 := ⟨_, rfl⟩
        have hcx : w.cell? ⟨b, off + k, none⟩ = some (.int .i64 x) := by rw [hx]; exact HC.out _ hkl
        have HX := (show Hid (l[k]? = some x) from getD_some hkl hx)
        have i1 : (k : Int) < (l.length : Int) := by omega
        clear hx
        by_cases hxr : x = r
        · have hdk : d = k := by rw [HD.out]; exact plc_hit (hxr ▸ HX.out) hno.out
          clear HD
          subst hdk
          go_wp2_with fail
          go_ret
          exact ⟨rfl, rfl⟩
        · have HN := (show Hid (r ∉ l.take (k + 1)) from no_snoc HX.out hno.out hxr)
          go_wp2_with fail
          go_round
          case rel => exact ⟨k + 1, by omega, by go_num, HN⟩
          case measure => simp [intOf]; omega
      · have hdk : d = -1 := by
          rw [HD.out, plc_none]
          have := hno.out
          rwa [List.take_of_length_le (by omega)] at this
        clear HD
        subst hdk
        go_wp2_with fail
        go_ret
        exact ⟨rfl, rfl⟩
  · obtain ⟨ao, cap, rfl, hc⟩ := hrd.form
    have hl0 : l = [] := List.eq_nil_of_length_eq_zero (by omega)
    subst hl0
    clear hrd
    go_enter Try.func15, Try.ntmps15
    go_wp2_with fail
    refine wp_loop_rounds 1 ?_; rw [rounds_succ]
    go_wp2_with fail
    go_ret
    exact ⟨rfl, rfl⟩
/-- ballot.Order. -/
theorem order_any (w : World) (v : Value) (l : List Int) (n : Int) (hrd : Rdi w v l) : Calls Try.prog 14 #[v, .int .i64 n] w fun e w' => e = .returned (.bool (isO l n)) ∧ w' = w := by
  obtain ⟨ao, cap, rfl, hc⟩ := hrd.form
  by_cases h : rgt n = true
  · have hR := right_yes w n h
    have hle := rgt_le h
    by_cases hl : (l.length : Int) = n
    · obtain ⟨d, hd⟩ : ∃ d, d = isO l n := ⟨_, rfl⟩
      rw [← hd]
      have HD := (show Hid (d = isO l n) from hd)
      have HL := (show Hid (rgt n = true ∧ (l.length : Int) = n) from ⟨h, hl⟩)
      have HP := (show Hid (∀ r, Calls Try.prog 15 #[.slice ao l.length cap, .int .i64 r] w fun e w' => e = .returned (.int .i64 (plc l r)) ∧ w' = w) from fun r => place_any w _ l r hrd)
      have hl0 : ((l.length : Int) != n) = false := by simpa using hl
      clear hd hl hrd h
      go_enter Try.func14, Try.ntmps14
      go_wp2_with (go_at_call 6; refine hR.mono ?_; rintro e w' ⟨rfl, rfl⟩)
      clear hR
      go_loop [16] (fun i => ∃ k : Nat, (k : Int) ≤ n ∧ i = .int .i64 k ∧ Hid (∀ r : Int, 0 ≤ r → r < k → r ∈ l)) (fun i => n.toNat - (intOf i).toNat)
      case atStart => exact ⟨0, by omega, rfl, fun r h0 h1 => by omega⟩
      case round =>
        obtain ⟨k, hk, rfl, hall⟩ := hrel
        by_cases hkn : (k : Int) < n
        · by_cases hm : (k : Int) ∈ l
          · have hP := HP.out (k : Int)
            have hpn : ¬ (plc l (k : Int) = -1) := fun e => plc_none.1 e hm
            generalize plc l (k : Int) = q at *
            have HA := (show Hid (∀ r : Int, 0 ≤ r → r < ((k + 1 : Nat) : Int) → r ∈ l) from fun r h0 h1 => by
              by_cases e : r = k
              · rw [e]; exact hm
              · exact hall.out r h0 (by omega))
            clear hm
            go_wp2_with (go_at_call 15; refine hP.mono ?_; rintro e w' ⟨rfl, rfl⟩)
            go_round
            case rel => exact ⟨k + 1, by omega, by go_num, HA⟩
            case measure => simp [intOf]; omega
          · have hP := HP.out (k : Int)
            rw [plc_none.2 hm] at hP
            have hdf : d = false := by rw [HD.out]; exact isO_no (by omega) hkn hm
            clear HD hm
            subst hdf
            go_wp2_with (go_at_call 15; refine hP.mono ?_; rintro e w' ⟨rfl, rfl⟩)
            go_ret
            exact ⟨rfl, rfl⟩
        · have hdt : d = true := by
            rw [HD.out, isO_iff]
            exact ⟨HL.out.1, HL.out.2, fun r hr => by
              have := mem_rng.1 hr
              exact hall.out r this.1 (by omega)⟩
          clear HD
          subst hdt
          go_wp2_with fail
          go_ret
          exact ⟨rfl, rfl⟩
    · have hf : isO l n = false := by rw [← Bool.not_eq_true, isO_iff]; exact fun e => hl e.2.1
      have hl0 : ((l.length : Int) != n) = true := by simpa using hl
      rw [hf]
      clear hf hl hrd h
      go_enter Try.func14, Try.ntmps14
      go_wp2_with (go_at_call 6; refine hR.mono ?_; rintro e w' ⟨rfl, rfl⟩)
      go_ret
      exact ⟨rfl, rfl⟩
  · have hR := right_not w n h
    have hf : isO l n = false := by rw [← Bool.not_eq_true, isO_iff]; exact fun e => h e.1
    rw [hf]
    clear hf hrd h
    go_enter Try.func14, Try.ntmps14
    go_wp2_with (go_at_call 6; refine hR.mono ?_; rintro e w' ⟨rfl, rfl⟩)
    go_ret
    exact ⟨rfl, rfl⟩
end Go.Proofs.Ytcajelodbfpkfab
