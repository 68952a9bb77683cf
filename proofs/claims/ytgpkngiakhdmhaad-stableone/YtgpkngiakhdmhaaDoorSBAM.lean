/- The walks over lists of texts: copying, comparing, unpacking. -/
import Derived.Test.YtgpkngiakhdmhaaDoorSBAE
import Derived.Test.YtgpkngiakhdmhaaDoorSBAF
import Derived.Deep.QuietTactic
import Derived.BigQuiet
namespace Go.Proofs.YtgpkngiakhdmhaaDoor
section
open Go.RowKit Oct
theorem Rdl.byts {w : World} {v : Value} {ll : List (List Int)} (h : Rdl w v ll) : Byts ll := by
  obtain ⟨vs, h1, h2⟩ := h
  clear h1
  intro l hl
  obtain ⟨i, hi, e⟩ := List.getElem_of_mem hl
  have hlen := h2.len
  exact (h2.get (List.getElem?_eq_getElem (show i < vs.length by omega)) (by rw [List.getElem?_eq_getElem hi, e])).1
set_option maxHeartbeats 400000 in
/-- octet.Pack. -/
theorem pack_any (w : World) (v : Value) (ll : List (List Int)) (hv : Rdl w v ll) (ht : tot ll ≤ 10000000) :
    Calls Tryd.prog 76 #[v] w fun e w' => ∃ v', e = .returned v' ∧ Own w' 5 v' (bc (packL ll)) ∧ Fr w.heap.size v' ∧ Below w.heap.size w w' := by
  obtain ⟨vs, hvs, hall⟩ := hv
  have hlen1 := Nat.le_of_eq hall.len
  have hlen2 := Nat.le_of_eq hall.len.symm
  have hlt := len_tot ll
  by_cases hl : 0 < vs.length
  · obtain ⟨b, off, cap, rfl, hc1, hc2, hb, hcell⟩ := hvs.at hl
    have HC := (show Hid (∀ (j : Nat) (u : Value), vs[j]? = some u → w.cell? ⟨b, off + j, none⟩ = some u) from hcell)
    have HA := (show Hid (All2 (Rd w) vs ll) from hall)
    clear hcell hvs hall
    go_enter Tryd.func76, Tryd.ntmps76
    go_wp2_with fail
    go_loopw [3, 8] (fun o i wr => ∃ k : Nat, k ≤ vs.length ∧ i = .int .i64 k ∧ Own wr 5 o (bc (packL (ll.take k))) ∧ Fr w.heap.size o ∧ Below w.heap.size w wr) (fun _ i _ => vs.length - (intOf i).toNat)
    case atStart => exact ⟨0, Nat.zero_le _, rfl, Own.nil _ _, Fr.nil _, Below.refl _ _⟩
    case round =>
      obtain ⟨k, hk, rfl, hown, hfr, hbel⟩ := hrel
      by_cases hkl : k < vs.length
      · obtain ⟨p, hp⟩ : ∃ p, vs[k]? = some p := ⟨_, List.getElem?_eq_getElem hkl⟩
        obtain ⟨l, hl'⟩ : ∃ l, ll[k]? = some l := ⟨_, List.getElem?_eq_getElem (by omega)⟩
        have hcp : wr.cell? ⟨b, off + k, none⟩ = some p := (hbel.cell (p := ⟨b, off + k, none⟩) hb).trans (HC.out k p hp)
        have hrd := HA.out.get hp hl'
        have hrd' := hrd.below hbel
        have hpl := packL_snoc (ll.take k) l
        rw [← take_snoc' ll k l hl'] at hpl
        have h1 := packL_len (ll.take k)
        have h2 := tot_take ll k
        have h3 := mem_tot (List.mem_of_getElem? hl')
        have hap : l ≠ [] → ∀ g, u3.ownBlock = some g → p.ownBlock ≠ some g := fun hne g hg hpg => by
          have := hfr g hg
          have := hrd.lt hne g hpg
          omega
        have hT := appendText_any wr u3 p (packL (ll.take k)) l hown hrd' hap (by omega)
        rw [← hpl] at hT
        have HT := (show Hid (∀ _ : Unit, _) from fun _ => hT)
        have hsz := hbel.size
        clear hT hpl hap hrd hrd' hp hl' hown
        go_wp2_with (go_at_call 81; refine (HT.out ()).mono ?_; rintro e w1 ⟨o1, rfl, happ⟩)
        go_roundw
        case rel => exact ⟨k + 1, by omega, by go_num, happ.own, happ.fr hfr hsz, hbel.trans (happ.below hfr hsz)⟩
        case measure => simp [intOf]; omega
      · have hk' : k = ll.length := by omega
        rw [hk', List.take_length] at hown
        clear HC HA hk'
        go_wp2_with fail
        go_ret
        exact ⟨_, rfl, hown, hfr, hbel⟩
  · have hl0 : ll = [] := List.eq_nil_of_length_eq_zero (by omega)
    have hv0 : vs = [] := List.eq_nil_of_length_eq_zero (by omega)
    subst hl0 hv0
    obtain ⟨ao, cap, rfl, hc⟩ := hvs.form
    clear hvs hall
    go_enter Tryd.func76, Tryd.ntmps76
    go_wp2_with fail
    refine wp_loop_rounds 1 ?_; rw [rounds_succ]
    go_wp2_with fail
    go_ret
    exact ⟨_, rfl, Own.nil _ _, Fr.nil _, Below.refl _ _⟩
end
section
open Go.RowKit Oct
theorem Tryd.info23 : (Tryd.prog.info? 26).map (fun i => (i.zero, i.size, i.bytes)) = some (some (.slice none 0 0), 1, 24) := by kernel_rfl
/-- 'append(s, x...)' of texts, at this program. -/
theorem app_list {w : World} {ops : Array Oper} {rest : List Oper} {o : Oper} {a : Act} {Q : Exit → Act → World → Prop} (hgd : o.guard = none) (s x : Operand)
    (ho : o.op = .call { callee := .builtin .append, args := #[s, x], argTypes := #[75, 75] })
    (v : Value) (vs : List Value) (hs : a.eval s = v) (hown : Own w 26 v vs) (sv : Value) (us : List Value) (hx : a.eval x = sv) (hsrc : Rdv w sv us) (h1 : ∀ u ∈ us, u.oneCell' = true) (hb : vs.length + us.length ≤ 1000000000)
    (h : ∀ v' w', App w 26 v w' v' (vs ++ us) → wpList Tryd.prog ops Q rest (a.put o.dst v') w') : wpList Tryd.prog ops Q (o :: rest) a w := by
  obtain ⟨i0, hi, hz0, hz1, hz2⟩ := info_parts Tryd.info23
  exact wpList_app (wanted_none hgd) s x 75 ho 26 i0 (.slice none 0 0) 24 Tryd.underlying75 hi hz0 hz1 hz2 rfl v vs hs hown sv us hx hsrc h1 (by unfold maxLen; omega) (by omega) h
/-- Texts that the call itself made. -/
def Els (w : World) (vs : List Value) (ll : List (List Int)) : Prop := All2 (fun c l => Own w 5 c (bc l)) vs ll
theorem Els.below {w w' : World} {vs : List Value} {ll : List (List Int)} (h : Els w vs ll) (hb : Below w.heap.size w w') : Els w' vs ll := h.mono fun _ _ h => h.below hb
/-- They stay while a list of texts is appended to. -/
theorem Els.app {w w' : World} {v v' : Value} {vs us xs : List Value} {ll : List (List Int)} (h : Els w us ll) (hv : Own w 26 v vs) (ha : App w 26 v w' v' xs) : Els w' us ll :=
  h.mono fun _ _ h => h.grown ha.grown (hv.apart h (by decide))
theorem Els.snoc {w : World} {vs : List Value} {ll : List (List Int)} {c : Value} {l : List Int} (h : Els w vs ll) (hc : Own w 5 c (bc l)) : Els w (vs ++ [c]) (ll ++ [l]) := All2.app h ⟨hc, trivial⟩
theorem Rd.drewN {w : World} {v : Value} {l : List Int} (h : Rd w v l) (n : Nat) : Rd (w.drewN n) v l := h
end
end Go.Proofs.YtgpkngiakhdmhaaDoor
