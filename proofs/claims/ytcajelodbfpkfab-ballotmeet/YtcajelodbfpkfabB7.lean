/- slices.Insert of one int, where there is room. -/
import Derived.Test.YtcajelodbfpkfabB6
import Derived.Lib.Overlaps
import Derived.Laws.IdiomCopy
import Derived.Laws.Externs
namespace Go.Proofs.Ytcajelodbfpkfab
open Go.RowKit Oct Bal

theorem splice_ins (cur : List Value) (l : List Int) (i : Nat) (x : Int) (hi : i < l.length) (hc : l.length + 1 ≤ cur.length) (ht : cur.take l.length = ic l) :
    (splice (splice cur (i + 1) ((ic l).drop i)) i [.int .i64 x]).take (l.length + 1) = ic (ins i x l) := by
  have e1 : cur.take i = (ic l).take i := by rw [← ht, List.take_take, Nat.min_eq_left (by omega)]
  have e2 : (cur.take (i + 1)).take i = (ic l).take i := by rw [List.take_take, Nat.min_eq_left (by omega), e1]
  have hl : (cur.take (i + 1)).length = i + 1 := by rw [List.length_take]; omega
  have hd : ((ic l).drop i).length = l.length - i := by rw [List.length_drop, ic_len]
  have e3 : (splice cur (i + 1) ((ic l).drop i)).take i = (ic l).take i := by
    unfold splice
    rw [List.take_append_of_le_length (by omega), e2]
  have e4 : (splice cur (i + 1) ((ic l).drop i)).drop (i + 1) = (ic l).drop i ++ cur.drop (i + 1 + ((ic l).drop i).length) := by
    unfold splice
    rw [List.drop_append_of_le_length (by omega), List.drop_of_length_le (by omega), List.nil_append]
  have h3 : ((ic l).take i).length = i := by rw [List.length_take, ic_len]; omega
  have e5 : splice (splice cur (i + 1) ((ic l).drop i)) i [.int .i64 x] = (ic l).take i ++ ([.int .i64 x] ++ ((ic l).drop i ++ cur.drop (i + 1 + ((ic l).drop i).length))) := by
    rw [splice, e3, List.length_singleton, e4]
  rw [e5, List.take_append, h3, List.take_of_length_le (l := (ic l).take i) (by omega)]
  unfold ins
  rw [ic_app, ic_take]
  congr 1
  rw [show l.length + 1 - i = (l.length - i) + 1 by omega, List.singleton_append, List.take_succ_cons, List.take_append_of_le_length (by omega), List.take_of_length_le (by omega), ← ic_drop]
  rfl

theorem run_over (w : World) (g vb i lb cb : Nat) (hne : vb ≠ g) (cur : List Value) (x : Int) (hg : Row w g 3 cur) (hc : cur ≠ []) (hv : Row w vb 3 [.int .i64 x]) :
    (callFunc 18 #[.slice (some ⟨vb, 0, none⟩) 1 1, .slice (some ⟨g, i, none⟩) lb cb]).run Try.prog w = .ok (.value (.bool false)) w := by
  have hz : ∀ w, (Go.sizeOf 3).run Try.prog w = .ok 1 w := fun w => by
    obtain ⟨i0, hi, hz0, hz1, hz2⟩ := info_parts Try.infoI
    simp [sizeOf, typeInfo, hi, hz1]
  have s1 : w.shape? vb = some (3, 1) := by
    unfold Row at hv
    simp [World.shape?, hv]
  have s2 : w.shape? g = some (3, cur.length) := by
    unfold Row at hg
    simp [World.shape?, hg]
  rw [run_callFunc_extern Try.func18 (by kernel_rfl) (by kernel_rfl) (by kernel_rfl) (e := Extern.SlicesOverlaps.overlaps #[22, 22] #[4]) (by kernel_rfl),
    Lib.run_overlaps_apart w 22 4 3 Try.underlying22 1 hz ⟨vb, 0, none⟩ ⟨g, i, none⟩ 1 1 lb cb hne 3 3 1 cur.length s1 s2 (fun e => hc (List.eq_nil_of_length_eq_zero e)) (hv.frozen 0) (hv.frozen 1)]
  rfl

theorem Row.at {w : World} {g : Nat} {t : TypeId} {cur : List Value} {l : List Int} (h : Row w g t cur) (ht : cur.take l.length = ic l) {j : Nat} {v : Value} (hj : (ic l)[j]? = some v) : w.cell? ⟨g, j, none⟩ = some v := by
  refine h.cell ?_
  have hlt : j < l.length := by
    rcases Nat.lt_or_ge j l.length with h | h
    · exact h
    · rw [List.getElem?_eq_none (by rw [ic_len]; omega)] at hj; cases hj
  rw [← ht, List.getElem?_take, if_pos hlt] at hj
  exact hj

theorem wl_copy_to {P : Program} {ops : Array Oper} {rest : List Oper} {o : Oper} {a : Act} {w : World} {Q : Exit → Act → World → Prop} (hgd : o.guard = none) (d s : Operand) (dT sT : TypeId)
    (ho : o.op = .call { callee := .builtin .copy, args := #[d, s], argTypes := #[dT, sT] }) (elem : TypeId) (hu : P.underlying dT = some (.slice elem)) (hsz : (P.info? elem).map (·.size) = some 1)
    (dp sp : Option Addr) (dLen dCap sLen sCap : Nat) (hd : a.eval d = .slice dp dLen dCap) (hs : a.eval s = .slice sp sLen sCap)
    (g off : Nat) (cur : List Value) (t : TypeId) (hg : Row w g t cur) (cs : List Value) (hn : cs.length = Nat.min sLen dLen)
    (hpos : 0 < cs.length → dp = some ⟨g, off, none⟩ ∧ ∃ ad, sp = some ad ∧ ∀ j v, cs[j]? = some v → w.cell? (ad.add j) = some v)
    (hfit : off + cs.length ≤ cur.length) (h1 : ∀ v ∈ cs, v.oneCell' = true) (m : Nat) (hm : cs.length = m)
    (h : ∀ w', Hid (Row w' g t (splice cur off cs)) → w.grownBy w' (some g) → wpList P ops Q rest (a.put o.dst (.int .i64 (m : Int))) w') : wpList P ops Q (o :: rest) a w :=
  wpList_plain hgd fun _ hK => wp_copy_to d s dT sT ho elem hu hsz dp sp dLen dCap sLen sCap hd hs g off cur t hg cs hn hpos hfit h1 m hm fun w' h2 h3 => hK _ _ (h w' h2 h3)

set_option maxHeartbeats 400000 in
set_option maxRecDepth 100000 in
/-- slices.Insert, ahead of the end. -/
theorem insert_mid (w : World) (g cap i vb : Nat) (l : List Int) (x : Int) (cur : List Value) (hrow : Row w g 3 cur) (hcl : cur.length = cap) (ht : cur.take l.length = ic l) (hi : i < l.length) (hroom : l.length + 1 ≤ cap) (hcap : cap ≤ 1000000)
    (hne : vb ≠ g) (hv : Row w vb 3 [.int .i64 x]) :
    Calls Try.prog 16 #[.slice (some ⟨g, 0, none⟩) l.length cap, .int .i64 (i : Int), .slice (some ⟨vb, 0, none⟩) 1 1] w fun e w' =>
      e = .returned (.slice (some ⟨g, 0, none⟩) (l.length + 1) cap) ∧ Own w' 3 (.slice (some ⟨g, 0, none⟩) (l.length + 1) cap) (ic (ins i x l)) ∧ w.grownBy w' (some g) := by
  have hov := fun lb cb => run_over w g vb (i + 1) lb cb hne cur x hrow (fun e => by rw [e] at hcl; simp at hcl; omega) hv
  have HI := (show Hid _ from splice_ins cur l i x hi (by omega) ht)
  have hdl : ((ic l).drop i).length = l.length - i := by rw [List.length_drop, ic_len]
  have hsrc : ∀ j v, ((ic l).drop i)[j]? = some v → w.cell? ((⟨g, i, none⟩ : Addr).add j) = some v := fun j v hj => by
    rw [Addr.add_mid]
    rw [List.getElem?_drop] at hj
    exact hrow.at ht hj
  have hil : (ic (ins i x l)).length = l.length + 1 := by rw [ic_len, ins_len]
  have h1 : ∀ u ∈ (ic l).drop i, u.oneCell' = true := fun u hu => ic_one l u (List.mem_of_mem_drop hu)
  have hfit : i + 1 + ((ic l).drop i).length ≤ cur.length := by omega
  have HR := (show Hid (Row w g 3 cur) from hrow)
  have HV := (show Hid (Row w vb 3 [.int .i64 x]) from hv)
  have HS := (show Hid (∀ j v, ((ic l).drop i)[j]? = some v → w.cell? ((⟨g, i, none⟩ : Addr).add j) = some v) from hsrc)
  have HF := (show Hid (i + 1 + ((ic l).drop i).length ≤ cur.length) from hfit)
  have HL := (show Hid (((ic l).drop i).length = l.length - i) from hdl)
  have HO := (show Hid (∀ u ∈ (ic l).drop i, u.oneCell' = true) from h1)
  have HC := (show Hid (cur.length = cap) from hcl)
  have HIL := (show Hid ((ic (ins i x l)).length = l.length + 1) from hil)
  clear hrow hv hsrc hfit hdl h1 hcl ht hil
  generalize l.length = N at *
  generalize (ic l).drop i = D at *
  generalize ic (ins i x l) = E at *
  have hz2 : ((i : Int) == (N : Int)) = false := by simp; omega
  have hb2 : ¬ (cap = i + 1) := by omega
  have hb4 : ¬ (cap = i) := by omega
  have hb0 : ¬ (cap = 0) := by omega
  have hb1 : (0 : Int) ≤ (i : Int) + 1 := by omega
  have hb3 : (i : Int) ≤ (N : Int) + 1 := by omega
  have hb5 : (i : Int) ≤ (N : Int) := by omega
  have hb6 : (i : Int) + 1 ≤ (N : Int) + 1 := by omega
  have hw1 : IntKind.i64.wrap ((i : Int) + 1) = (i : Int) + 1 := by rw [IntKind.wrap_i64]; omega
  have hin : i ≤ N := by omega
  have htn : ((i : Int) + 1).toNat = i + 1 := by omega
  go_enter Try.func16, Try.ntmps16
  go_wp2_with (simp only [hov])
  clear hov
  go_region_law ((refine step_copy_to (by rfl) _ _ _ _ (by rfl) 3 Try.underlying22 Try.sizI (some ⟨g, i + 1, none⟩) (some ⟨g, i, none⟩) (N - i) (cap - (i + 1)) (N + 1 - i) (cap - i) (by simp [Act.eval, Act.put]) (by simp [Act.eval, Act.put]) g (i + 1) cur 3 HR.out D (by rw [HL.out]; simp only [Nat.min_def]; split <;> omega) (fun _ => ⟨rfl, _, rfl, HS.out⟩) HF.out HO.out (N - i) HL.out ?_; intro w2 hr2 hg2))
  have hv2 : Row w2 vb 3 [.int .i64 x] := HV.out.grown (grown_drew hg2) (fun e => hne (Option.some.inj e).symm)
  have hs2 : ∀ j v, ([.int .i64 x] : List Value)[j]? = some v → w2.cell? ((⟨vb, 0, none⟩ : Addr).add j) = some v := fun j v hj => by
    rw [Addr.add_mid, Nat.zero_add]
    exact hv2.cell hj
  have HS2 := (show Hid (∀ j v, ([.int .i64 x] : List Value)[j]? = some v → w2.cell? ((⟨vb, 0, none⟩ : Addr).add j) = some v) from hs2)
  have HF2 := (show Hid (i + 1 ≤ (splice cur (i + 1) D).length) from by
    show i + 1 ≤ (splice cur (i + 1) D).length
    rw [length_splice _ _ _ HF.out, HC.out]; omega)
  have HG2 := (show Hid (w.grownBy w2 (some g)) from grown_drew hg2)
  clear hv2 hs2 hg2
  go_wp2_with (refine wl_copy_to (by rfl) _ _ _ _ (by rfl) 3 Try.underlying22 Try.sizI (some ⟨g, i, none⟩) (some ⟨vb, 0, none⟩) (N + 1 - i) (cap - i) 1 1 (by simp [Act.eval]) (by simp [Act.eval]) g i (splice cur (i + 1) D) 3 hr2.out [.int .i64 x] (by simp only [Nat.min_def, List.length_singleton]; split <;> omega) (fun _ => ⟨rfl, _, rfl, HS2.out⟩) HF2.out (fun u hu => by rw [List.mem_singleton.1 hu]; rfl) 1 rfl ?_; intro w3 hr3 hg3)
  go_ret
  have hr := hr3.out
  have hl3 : (splice (splice cur (i + 1) D) i [.int .i64 x]).length = cap := by rw [length_splice _ _ _ HF2.out, length_splice _ _ _ HF.out, HC.out]
  have ho := own_row hr (N + 1) (by rw [hl3]; exact hroom) (by rw [hl3]; unfold maxLen; omega)
  rw [hl3, HI.out] at ho
  exact ⟨rfl, ho, grown_trans HG2.out hg3 (.inl rfl)⟩
/-- slices.Insert, at the end. -/
theorem insert_end (w : World) (g cap : Nat) (l : List Int) (x : Int) (hown : Own w 3 (.slice (some ⟨g, 0, none⟩) l.length cap) (ic l)) (hroom : l.length + 1 ≤ cap) (hcap : cap ≤ 1000000) (vb : Nat) (hv : Row w vb 3 [.int .i64 x]) :
    Calls Try.prog 16 #[.slice (some ⟨g, 0, none⟩) l.length cap, .int .i64 (l.length : Int), .slice (some ⟨vb, 0, none⟩) 1 1] w fun e w' =>
      e = .returned (.slice (some ⟨g, 0, none⟩) (l.length + 1) cap) ∧ Own w' 3 (.slice (some ⟨g, 0, none⟩) (l.length + 1) cap) (ic (l ++ [x])) ∧ w.grownBy w' (some g) := by
  have hsrc : Rdi w (.slice (some ⟨vb, 0, none⟩) 1 1) [x] := Own.rdv (e := 3) (own_row hv 1 (by simp) (by simp [maxLen]))
  obtain ⟨N, hN⟩ : ∃ N, l.length = N := ⟨_, rfl⟩
  have HO := (show Hid (Own w 3 (.slice (some ⟨g, 0, none⟩) N cap) (ic l)) from by rw [← hN]; exact hown)
  rw [hN] at hroom ⊢
  have HN := (show Hid (l.length = N) from hN)
  have HS := (show Hid (Rdi w (.slice (some ⟨vb, 0, none⟩) 1 1) [x]) from hsrc)
  clear hown hv hsrc hN
  have hz2 : ((N : Int) == (N : Int)) = true := by simp
  have hb : ¬ (cap = N) := by omega
  go_enter Try.func16, Try.ntmps16
  go_wp2_with (at_builtin; refine app_room rfl _ _ rfl g N cap l rfl HN.out HO.out _ [x] rfl HS.out hroom hcap ?_; intro w2 ho2 hg2)
  go_ret
  exact ⟨rfl, ho2, hg2⟩
end Go.Proofs.Ytcajelodbfpkfab
